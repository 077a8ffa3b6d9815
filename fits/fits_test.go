package fits_test

import (
	"fmt"
	"math"
	"runtime/debug"
	"slices"
	"strings"
	"testing"

	"typecase/api"
	"typecase/fits"
	"typecase/path"
	"typecase/val"
)

func brief(x any) string { return fmt.Sprintf("%.600s", fmt.Sprint(x)) }

// checkJudge: is all that is told of a schema and a value what the model says?
func checkJudge(t *testing.T, s api.Schema, v api.Value) ([]api.Step, bool, api.Errno) {
	t.Helper()
	way, fit, want := modelJudge(s, v)
	if e := modelCheck(s); fits.Check(s) != e {
		t.Errorf("Check(%s) is %d, not %d", brief(s), fits.Check(s), e)
	}
	if ok, e := fits.Fits(s, v); ok != fit || e != want {
		t.Errorf("Fits(%s, %s) is %v and %d, not %v and %d", brief(s), brief(v), ok, e, fit, want)
	}
	if l, ok, e := fits.Why(s, v); !slices.Equal(l, way) || ok != fit || e != want {
		t.Errorf("Why(%s, %s) is %v, %v and %d, not %v, %v and %d", brief(s), brief(v), l, ok, e, way, fit, want)
	}
	return way, fit, want
}

// checkError of a schema and a value, in all calls that have both.
func checkError(t *testing.T, s api.Schema, v api.Value, want api.Errno) {
	t.Helper()
	if _, _, e := checkJudge(t, s, v); e != want {
		t.Errorf("the model says %d of %s and %s, not %d", e, brief(s), brief(v), want)
	}
	if l, ok, e := fits.Why(s, v); l != nil || ok || e != want {
		t.Errorf("with %d there are %v and %v", e, l, ok)
	}
}

// checkSchema alone: is that its error?
func checkSchema(t *testing.T, s api.Schema, want api.Errno) {
	t.Helper()
	if want == api.OK {
		checkJudge(t, s, number(7))
	} else {
		checkError(t, s, number(7), want)
		checkError(t, s, api.Value{Kind: 9}, want)
	}
}

// checkFits: does v fit, or where does it go wrong?
func checkFits(t *testing.T, s api.Schema, v api.Value, want string) {
	t.Helper()
	l, ok, e := checkJudge(t, s, v)
	if e != api.OK {
		t.Errorf("%s and %s are %d", brief(s), brief(v), e)
	}
	told, _ := path.Text(l)
	if ok {
		told = "yes"
	}
	if told != want {
		t.Errorf("%s goes wrong at %s of %s, not at %s", brief(v), told, brief(s), want)
	}
}

// P200: what fits.

// TestTypesAndKinds: each value held against each type without parts.
func TestTypesAndKinds(t *testing.T) {
	all := append(anyValues(), api.Value{Kind: api.VBool, N: 1}, number(math.MinInt64), number(math.MaxInt64), number(0), api.Value{Kind: api.VFloat}, api.Value{Kind: api.VFloat, F: 1 << 63}, api.Value{Kind: api.VFloat, F: 0x7ff8000000000001})
	told := map[int]int{}
	for kind, x := range map[int]api.Type{api.VNull: null(), api.VBool: truth(), api.VInt: whole(math.MinInt64, math.MaxInt64), api.VFloat: fraction(), api.VText: text(0, math.MaxInt64), api.VList: list(0, math.MaxInt64, anything()), api.VTable: dict(anything())} {
		for _, v := range all {
			want := "$"
			if v.Kind == kind {
				want = "yes"
				told[kind]++
			}
			checkFits(t, schema(x), v, want)
			checkFits(t, schema(ref("a"), def("a", x)), v, want)
			checkFits(t, schema(union(union(), x)), v, want)
			checkFits(t, schema(anything()), v, "yes")
			checkFits(t, schema(union(anything())), v, "yes")
			checkFits(t, schema(union()), v, "$")
		}
	}
	if len(told) != 7 {
		t.Error("not each kind of values is there")
	}
}

func TestNumbers(t *testing.T) {
	edges := []int64{math.MinInt64, math.MinInt64 + 1, -1 << 53, -2, -1, 0, 1, 2, 6, 7, 1 << 53, math.MaxInt64 - 1, math.MaxInt64}
	for i, lo := range edges {
		for _, hi := range edges[i:] {
			for _, n := range edges {
				want := "yes"
				if n < lo || n > hi {
					want = "$"
				}
				checkFits(t, schema(whole(lo, hi)), number(n), want)
			}
		}
	}
	// A fraction is no whole number, and a whole number no fraction.
	checkFits(t, schema(whole(0, 9)), api.Value{Kind: api.VFloat, F: math.Float64bits(1)}, "$")
	checkFits(t, schema(fraction()), number(1), "$")
}

// TestTexts: their runes count, not their bytes.
func TestTexts(t *testing.T) {
	for s, n := range map[string]int64{"": 0, "a": 1, "é": 1, "\U0010ffff": 1, "e\u0301": 2, "\x00": 1, "\ufffd": 1, "aé€\U00010000": 4, strings.Repeat("x", 4000): 4000, strings.Repeat("€", 1333): 1333} {
		for lo := max(n-2, 0); lo <= n+2; lo++ {
			for _, hi := range []int64{lo, lo + 1, lo + 2, lo + 3, math.MaxInt64} {
				want := "$"
				if lo <= n && n <= hi {
					want = "yes"
				}
				checkFits(t, schema(text(lo, hi)), word(s), want)
			}
		}
	}
	few := []string{"", "\x00", "A", "a", "aa", "b", "é"}
	for k := range 1 << len(few) {
		var l []string
		for i, s := range few {
			if k&(1<<i) != 0 {
				l = append(l, s)
			}
		}
		if len(l) == 0 {
			continue
		}
		for _, s := range append(few, "aaa", "\x00\x00", "e", "\U0010ffff") {
			want := "$"
			if slices.Contains(l, s) {
				want = "yes"
			}
			checkFits(t, schema(oneOf(l...)), word(s), want)
		}
	}
}

func TestLists(t *testing.T) {
	for lo := range int64(4) {
		for hi := lo; hi < 5; hi++ {
			for n := range 6 {
				v := values(slices.Repeat([]api.Value{number(1)}, n)...)
				good := lo <= int64(n) && int64(n) <= hi
				want, badly := "$", "$"
				if good {
					want = "yes"
				}
				if good && n > 0 {
					badly = "$[0]"
				} else if good {
					badly = "yes"
				}
				checkFits(t, schema(list(lo, hi, whole(1, 1))), v, want)
				checkFits(t, schema(list(lo, hi, whole(2, 2))), v, badly)
			}
		}
	}
	checkFits(t, schema(list(200, math.MaxInt64, null())), values(make([]api.Value, 200)...), "yes")
	checkFits(t, schema(list(201, math.MaxInt64, null())), values(make([]api.Value, 200)...), "$")
	v := values(number(1), number(2), number(3))
	checkFits(t, schema(list(0, 9, whole(1, 2))), v, "$[2]")
	checkFits(t, schema(list(0, 9, whole(2, 3))), v, "$[0]")
	checkFits(t, schema(list(0, 9, union(whole(1, 1), null()))), v, "$[1]")
	checkFits(t, schema(list(0, 9, union())), v, "$[0]")
	checkFits(t, schema(list(0, 2, union())), v, "$")
	checkFits(t, schema(list(0, 9, union())), values(), "yes")
}

// table of entries whose values are told behind their keys.
func table(l ...any) api.Value {
	v := api.Value{Kind: api.VTable}
	for i := 0; i < len(l); i += 2 {
		x, ok := l[i+1].(api.Value)
		if !ok {
			x = number(int64(l[i+1].(int)))
		}
		v.E = append(v.E, api.Entry{Key: l[i].(string), V: x})
	}
	return v
}

func TestMaps(t *testing.T) {
	s := schema(dict(whole(1, 2)))
	checkFits(t, s, table(), "yes")
	checkFits(t, s, table("", 1, "\x00", 2, "a", 1), "yes")
	checkFits(t, s, table("", 0, "\x00", 2, "a", 0), `$.""`)
	checkFits(t, s, table("", 1, "a", 3, "b", 3), "$.a")
	checkFits(t, s, table("", 1, "a", 2, "b", 3), "$.b")
	checkFits(t, schema(dict(union())), table(), "yes")
	checkFits(t, schema(dict(union())), table("a", 1), "$.a")
	checkFits(t, schema(dict(dict(null()))), table("a", table(), "b", table("c", api.Value{}, "d", table())), "$.b.d")
}

func TestRecords(t *testing.T) {
	one := whole(1, 1)
	s := schema(record(field("a", one), opt("c", one), withDef("e", one, number(1)), api.Field{Name: "g", Opt: true, HasDef: true, T: one, Def: number(1)}))
	for _, c := range []struct {
		v    api.Value
		want string
	}{
		{table("a", 1), "yes"},
		{table("a", 1, "c", 1), "yes"},
		{table("a", 1, "e", 1), "yes"},
		{table("a", 1, "c", 1, "e", 1, "g", 1), "yes"},
		// One that is neither Opt nor has a Def may not be left out.
		{table(), "$"},
		{table("c", 1, "e", 1, "g", 1), "$"},
		// What is wrong with an entry is told ahead of what is left out, and the first one ahead of others.
		{table("c", 1, "e", 2), "$.e"},
		{table("c", 2, "e", 2), "$.c"},
		{table("c", 1, "f", 1), "$.f"},
		{table("b", 1, "c", 2), "$.b"},
		{table("a", 1, "c", 2, "d", 1), "$.c"},
		{table("a", 2, "b", 1), "$.a"},
		{table("", 1, "a", 2), `$.""`},
		{table("a", 1, "c", 1, "e", 1, "g", 1, "h", 1), "$.h"},
		{table("a", 1, "a\x00", 1), `$."a\u{0}"`},
		// What may be left out fits, if it is there.
		{table("a", 1, "g", 2), "$.g"},
		{table("a", api.Value{}), "$.a"},
		{table("a", 1, "c", api.Value{}), "$.c"},
	} {
		checkFits(t, s, c.v, c.want)
	}
	checkFits(t, schema(record()), table(), "yes")
	checkFits(t, schema(record()), table("a", 1), "$.a")
	checkFits(t, schema(record(field("a", union()))), table(), "$")
	checkFits(t, schema(record(opt("a", union()))), table(), "yes")
	checkFits(t, schema(record(opt("a", union()))), table("a", 1), "$.a")
	all := fields(196, one)
	v := table()
	for _, f := range all.F {
		v.E = append(v.E, api.Entry{Key: f.Name, V: number(1)})
	}
	checkFits(t, schema(all), v, "yes")
	for i := range v.E {
		less := bareValue(v)
		less.E = slices.Delete(less.E, i, i+1)
		checkFits(t, schema(all), less, "$")
		v.E[i].V.N = 2
		checkFits(t, schema(all), v, fmt.Sprintf("$.%q", v.E[i].Key))
		v.E[i].V.N = 1
	}
}

// TestParts: it is one of the parts that counts, that one alone.
func TestParts(t *testing.T) {
	s := schema(union(ref("b"), list(1, 2, ref("a"))), def("a", union(null(), whole(1, 2), ref("c"), dict(ref("a")))), def("b", union(oneOf("x"), truth())), def("c", list(0, 1, truth())))
	for _, c := range []struct {
		v    api.Value
		want string
	}{
		{word("x"), "yes"},
		{word("y"), "$"},
		{api.Value{Kind: api.VBool}, "yes"},
		{number(1), "$"},
		{api.Value{}, "$"},
		{table(), "$"},
		{values(), "$"},
		{values(api.Value{}, number(2)), "yes"},
		{values(api.Value{}, number(3)), "$[1]"},
		{values(values()), "yes"},
		{values(values(api.Value{Kind: api.VBool})), "yes"},
		{values(values(number(1))), "$[0][0]"},
		{values(values(number(1), number(1))), "$[0]"},
		{values(table("a", 1, "b", table("c", api.Value{}))), "yes"},
		{values(table("a", 1, "b", table("c", word("x")))), "$[0].b.c"},
		{values(table("a", 1, "b", table("c", values(values())))), "$[0].b.c[0]"},
	} {
		checkFits(t, s, c.v, c.want)
	}
}

// TestNamesWithinThemselves: a list of lists of itself, and so on.
func TestNamesWithinThemselves(t *testing.T) {
	s := schema(ref("t"), def("t", union(null(), list(0, 9, ref("t")))))
	deep := api.Value{}
	for range 19 {
		deep = values(deep)
	}
	checkFits(t, s, deep, "yes")
	deep = number(1)
	for range 19 {
		deep = values(api.Value{}, deep)
	}
	checkFits(t, s, deep, "$"+strings.Repeat("[1]", 19))
	round := schema(ref("t"), def("t", record(opt("a", ref("t")))))
	checkFits(t, round, table("a", table("a", table())), "yes")
	checkFits(t, round, table("a", table("a", table("b", table()))), "$.a.a.b")
	checkFits(t, schema(ref("t"), def("t", record(field("a", ref("t"))))), table("a", table("a", table())), "$.a.a")
}

// P201: what a Def has to be.

func TestDefs(t *testing.T) {
	one := whole(1, 1)
	inner := record(withDef("x", one, number(1)), opt("y", one))
	for _, c := range []struct {
		x    api.Type
		want api.Errno
	}{
		{record(withDef("a", one, number(1))), api.OK},
		{record(withDef("a", one, number(2))), api.ErrFit},
		{record(api.Field{Name: "a", Opt: true, HasDef: true, T: one, Def: number(2)}), api.ErrFit},
		{record(withDef("a", null(), api.Value{})), api.OK},
		{record(withDef("a", one, api.Value{})), api.ErrFit},
		{record(field("a", one), opt("b", one)), api.OK},
		{record(withDef("a", union(), api.Value{})), api.ErrFit},
		{record(withDef("a", anything(), values(number(7)))), api.OK},
		{record(withDef("a", one, number(1)), withDef("b", one, number(2))), api.ErrFit},
		{record(withDef("a", one, number(2)), withDef("b", one, number(1))), api.ErrFit},
		// It is full, too, and so is each value within.
		{record(withDef("a", inner, table())), api.ErrFit},
		{record(withDef("a", inner, table("y", 1))), api.ErrFit},
		{record(withDef("a", inner, table("x", 1))), api.OK},
		{record(withDef("a", inner, table("x", 1, "y", 1))), api.OK},
		{record(withDef("a", inner, table("x", 1, "z", 1))), api.ErrFit},
		{record(withDef("a", list(0, 2, inner), values(table("x", 1)))), api.OK},
		{record(withDef("a", list(0, 2, inner), values(table("x", 1), table()))), api.ErrFit},
		{record(withDef("a", dict(inner), table("k", table()))), api.ErrFit},
		{record(withDef("a", dict(inner), table("k", table("x", 1)))), api.OK},
		{record(withDef("a", record(field("b", inner)), table("b", table()))), api.ErrFit},
		{record(withDef("a", record(field("b", inner)), table("b", table("x", 1)))), api.OK},
		{record(withDef("a", record(opt("b", inner)), table())), api.OK},
		{record(withDef("a", record(opt("b", inner)), table("b", table()))), api.ErrFit},
		{record(withDef("a", union(null(), inner), table())), api.ErrFit},
		{record(withDef("a", union(null(), inner), api.Value{})), api.OK},
		// What is Opt and has a Def is there, too.
		{record(withDef("a", record(api.Field{Name: "x", Opt: true, HasDef: true, T: one, Def: number(1)}), table())), api.ErrFit},
		{record(withDef("a", record(api.Field{Name: "x", Opt: true, HasDef: true, T: one, Def: number(1)}), table("x", 1))), api.OK},
		// Held against anything, it is held against no record.
		{record(withDef("a", anything(), table()), withDef("b", inner, table("x", 1))), api.OK},
	} {
		for _, s := range []api.Schema{schema(c.x), schema(null(), def("a", c.x)), schema(c.x, def("a", null())), schema(null(), def("a", null()), def("b", c.x)), schema(dict(list(0, 1, union(c.x)))), schema(record(field("a", c.x)))} {
			checkSchema(t, s, c.want)
		}
	}
	// By names, also by its own.
	for x, want := range map[*api.Value]api.Errno{{}: api.OK, {Kind: api.VInt, N: 1}: api.ErrFit, {Kind: api.VTable}: api.ErrFit, {Kind: api.VTable, E: []api.Entry{{Key: "a"}}}: api.OK} {
		checkSchema(t, schema(null(), def("t", record(withDef("a", union(ref("n"), ref("t")), *x))), def("z", null()), def("n", null())), api.ErrOrder)
		checkSchema(t, schema(null(), def("n", null()), def("t", record(withDef("a", union(ref("n"), ref("t")), *x)))), want)
	}
}

func TestCheckTellsTheFirst(t *testing.T) {
	bad := record(withDef("a", null(), number(1)))
	for _, c := range []struct {
		s    api.Schema
		want api.Errno
	}{
		// All that a type may have comes ahead of what does not fit, wherever it stands.
		{schema(whole(2, 1), def("a", bad)), api.ErrRange},
		{schema(bad, def("b", null()), def("a", null())), api.ErrOrder},
		{schema(ref("b"), def("a", bad)), api.ErrNone},
		{schema(bad, def("a", ref("a"))), api.ErrType},
		{schema(union(null(), null()), def("a", bad)), api.ErrClash},
		{schema(bad, def("a", union(anything(), null()))), api.ErrClash},
		{schema(record(withDef("a", null(), number(1)), withDef("b", null(), api.Value{Kind: 9}))), api.ErrKind},
		{schema(bad, def("a", record(withDef("a", null(), word("\xff"))))), api.ErrText},
		{schema(record(api.Field{Name: "a", T: null(), Def: number(1)})), api.ErrKind},
		{schema(bad), api.ErrFit},
	} {
		checkSchema(t, c.s, c.want)
	}
	// A value is looked at behind the schema, and held against it behind that.
	checkError(t, schema(null()), api.Value{Kind: 9}, api.ErrKind)
	checkError(t, schema(null()), word("\xff"), api.ErrText)
	checkError(t, schema(null()), word(strings.Repeat("x", 4001)), api.ErrLarge)
	checkError(t, schema(null()), table("b", 1, "a", 1), api.ErrOrder)
	checkError(t, schema(anything()), table("a", 1, "a", 1), api.ErrOrder)
	checkError(t, schema(list(0, 1, null())), values(number(1), number(2), api.Value{Kind: 1, N: 2}), api.ErrKind)
	checkError(t, schema(bad), api.Value{Kind: 9}, api.ErrFit)
}

// P200 and P201, of all that is small, and of much that is not.

// small types over a name that stands for a list of its own.
func small() []api.Type {
	l := []api.Type{anything(), null(), whole(1, 2), text(1, 1), oneOf("a", "é"), union(), ref("t")}
	for _, x := range slices.Clone(l) {
		l = append(l, list(0, 1, x), list(1, 2, x), dict(x), record(field("a", x)), record(opt("a", x)), record(opt("a", x), field("b", null())), record(withDef("a", x, number(1))), record(withDef("a", x, word("a"))), record(withDef("a", x, api.Value{})), record(withDef("a", x, values())), union(x, whole(3, 4)))
	}
	return l
}

func smallValues() []api.Value {
	l := anyValues()
	for _, x := range slices.Clone(l) {
		l = append(l, values(x), values(number(1), x), at("a", x), table("a", x, "b", 1), table("b", x))
	}
	return l
}

func TestAllSmall(t *testing.T) {
	told := map[api.Errno]int{}
	fit := map[bool]int{}
	for _, x := range small() {
		for _, root := range []api.Type{x, list(0, 2, x), record(field("a", x)), record(withDef("a", x, table()))} {
			for _, v := range smallValues() {
				_, ok, e := checkJudge(t, schema(root, def("t", list(0, 2, union(ref("t"), null())))), v)
				told[e]++
				fit[ok]++
			}
			if t.Failed() {
				return
			}
		}
	}
	if told[api.OK] < 1000 || told[api.ErrFit] < 1000 || fit[true] < 500 || fit[false] < 1000 {
		t.Errorf("there were %v and %v only", told, fit)
	}
}

func TestMadeValues(t *testing.T) {
	m := newMaker(200)
	fit, deep := map[bool]int{}, map[int]int{}
	for range 6000 {
		s := m.good()
		if e := modelCheck(s); e != api.OK {
			t.Fatalf("%s was made, and is %d", brief(s), e)
		}
		v, ok := m.value(s, s.Root, 5, false)
		if !ok {
			v = pick(m, anyValues())
		}
		if _, fit, _ := checkJudge(t, s, v); ok && !fit {
			t.Fatalf("%s was made to fit %s, and does not", brief(v), brief(s))
		}
		for range 4 {
			near := bareValue(v)
			m.change(&near)
			l, ok, _ := checkJudge(t, s, near)
			fit[ok]++
			if !ok {
				deep[len(l)]++
			}
		}
		if t.Failed() {
			return
		}
	}
	if fit[true] < 1000 || deep[0] < 100 || deep[1] < 100 || deep[2] < 100 || deep[3] < 100 {
		t.Errorf("there were %v and %v only", fit, deep)
	}
}

func TestSpoiledSchemas(t *testing.T) {
	m := newMaker(201)
	told := map[api.Errno]int{}
	for range 8000 {
		s := m.good()
		l := fieldsOf(&s)
		if len(l) == 0 {
			continue
		}
		f := pick(m, l)
		switch i := m.IntN(8); {
		case i == 0:
			f.Name = pick(m, []string{"a", "\xff", strings.Repeat("k", 101)})
		case i == 1:
			f.T = pick(m, append(leaves(), ref("x"), whole(2, 1), text(-1, 1), oneOf()))
		case i == 2:
			f.HasDef, f.Def = true, pick(m, append(anyValues(), api.Value{Kind: 9}, word("\xff")))
		case i == 3:
			f.HasDef = !f.HasDef
		case i == 4:
			f.Opt = !f.Opt
		default:
			f.HasDef = true
			m.change(&f.Def)
		}
		_, _, e := checkJudge(t, s, pick(m, anyValues()))
		told[e]++
		if t.Failed() {
			return
		}
	}
	for _, e := range []api.Errno{api.OK, api.ErrText, api.ErrLarge, api.ErrKind, api.ErrOrder, api.ErrFit} {
		if told[e] < 50 {
			t.Errorf("%d was told %d times only", e, told[e])
		}
	}
}

// TestSpoiledValues: P3, with an error there is nothing else.
func TestSpoiledValues(t *testing.T) {
	m := newMaker(202)
	for range 2000 {
		s := m.good()
		v, _ := m.value(s, s.Root, 5, false)
		x := m.partOf(&v)
		*x = pick(m, []api.Value{{Kind: 7}, {Kind: -1}, {Kind: api.VBool, N: 2}, word("\xff"), word(strings.Repeat("x", 4001)), {Kind: api.VList, L: make([]api.Value, 201)}, table("b", 1, "b", 2), {Kind: api.VNull, N: 1}})
		checkError(t, s, v, val.Check(v))
	}
}

// P1: it answers, whatever it is given.

func TestEndless(t *testing.T) {
	defer debug.SetMaxStack(debug.SetMaxStack(1 << 20))
	circle := make([]api.Value, 1)
	circle[0] = values(circle...)
	deep := api.Value{}
	for range 200000 {
		deep = values(deep)
	}
	elements := make([]api.Type, 1)
	elements[0] = union(elements...)
	list := schema(ref("t"), def("t", list(0, 1, ref("t"))))
	for _, v := range []api.Value{circle[0], deep} {
		for _, s := range []api.Schema{list, schema(anything()), schema(null()), schema(record(withDef("a", anything(), v)))} {
			if l, ok, e := fits.Why(s, v); l != nil || ok || e != api.ErrDeep {
				t.Errorf("of an endless value there are %v, %v and %d", l, ok, e)
			}
		}
	}
	if fits.Check(schema(elements[0])) != api.ErrDeep {
		t.Error("an endless type is good")
	}
}

// TestLargest: as many values in Defs as a schema may have, each held by long ways.
func TestLargest(t *testing.T) {
	v := values(slices.Repeat([]api.Value{values(make([]api.Value, 9)...)}, 199)...)
	r := fields(120, ref("t"))
	for i := range r.F {
		r.F[i].HasDef, r.F[i].Def = true, v
	}
	wide := union(slices.Repeat([]api.Type{union()}, 30)...)
	for range 17 {
		wide = union(union(), wide)
	}
	wide.T = append(wide.T, null(), list(0, 200, ref("t")))
	s := schema(r, def("t", wide))
	if fits.Check(s) != api.OK {
		t.Error("a record of many values is", fits.Check(s))
	}
	v.L[198].L[8] = number(1)
	r.F[119].Def = v
	if fits.Check(s) != api.ErrFit {
		t.Error("a record of many values is", fits.Check(s))
	}
}

// P2: nothing that is handed in is changed or kept, and answers are new memory.

func TestNothingIsChanged(t *testing.T) {
	m := newMaker(2)
	for range 2000 {
		s := m.good()
		v, _ := m.value(s, s.Root, 4, false)
		m.change(&v)
		s, v = roomySchema(s), roomyValue(v)
		was, wasValue := roomOfSchema(s), roomOfValue(v)
		sameSchema, sameV := bareSchema(s), bareValue(v)
		fits.Check(s)
		fits.Fits(s, v)
		way, ok, _ := fits.Why(s, v)
		want, _, _ := modelJudge(s, v)
		again, _, _ := fits.Why(s, v)
		for i := range way[:cap(way)] {
			way[:cap(way)][i] = api.Step{Key: "scribble", I: 7}
		}
		if !sameSchemas(roomOfSchema(s), was) || !sameValue(roomOfValue(v), wasValue) || !slices.Equal(again, want) {
			t.Fatalf("what was handed in was changed: %s, %s", brief(was), brief(wasValue))
		}
		scribbleSchema(s)
		scribbleValue(&v)
		if later, okLater, e := fits.Why(sameSchema, sameV); !slices.Equal(again, want) || !slices.Equal(later, want) || okLater != ok || e != api.OK {
			t.Fatalf("%v hangs on what was handed in", again)
		}
	}
}
