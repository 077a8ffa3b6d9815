package typ_test

import (
	"fmt"
	"math"
	"runtime/debug"
	"slices"
	"strings"
	"testing"

	"typecase/api"
	"typecase/typ"
	"typecase/val"
)

func brief(x any) string { return fmt.Sprintf("%.600s", fmt.Sprint(x)) }

// checkSchema: is that its error in all three calls, and by the model? Without one, are parts and kinds those of the model?
func checkSchema(t *testing.T, s api.Schema, want api.Errno) {
	t.Helper()
	if e := modelCheck(s); e != want {
		t.Errorf("the model says %d of %s, not %d", e, brief(s), want)
	}
	checkModel(t, s)
}

// checkModel: is all that is told of a schema what the model says?
func checkModel(t *testing.T, s api.Schema) api.Errno {
	t.Helper()
	want := modelCheck(s)
	var parts []api.Type
	var kinds []int
	if want == api.OK {
		parts, kinds = modelParts(s, s.Root), modelKinds(s, s.Root)
	}
	if e := typ.Check(s); e != want {
		t.Errorf("Check(%s) is %d, not %d", brief(s), e, want)
	}
	if l, e := typ.Parts(s); !sameTypes(l, parts) || e != want {
		t.Errorf("Parts(%s) is %s and %d, not %s and %d", brief(s), brief(l), e, brief(parts), want)
	}
	if l, e := typ.Kinds(s); !slices.Equal(l, kinds) || e != want {
		t.Errorf("Kinds(%s) is %v and %d, not %v and %d", brief(s), l, e, kinds, want)
	}
	return want
}

// checkType as a Root, as a Def's type, and within others.
func checkType(t *testing.T, x api.Type, want api.Errno) {
	t.Helper()
	checkSchema(t, schema(x), want)
	checkSchema(t, schema(null(), def("a", x)), want)
	for _, around := range []api.Type{union(x), list(0, 1, x), dict(x), record(field("a", null()), field("b", x), field("c", null()))} {
		checkSchema(t, schema(around), want)
	}
}

// P190: are two types the same?

func checkSame(t *testing.T, a, b api.Type, want bool) {
	t.Helper()
	if typ.Same(a, b) != want || typ.Same(b, a) != want {
		t.Errorf("Same(%s, %s) is not %v", brief(a), brief(b), want)
	}
	if same(a, b) != want {
		t.Errorf("the model does not say %v of %s, %s", want, brief(a), brief(b))
	}
}

// TestSameEachField: two that differ in one of all that they have.
func TestSameEachField(t *testing.T) {
	// Whatever the Kind, all counts.
	full := func() api.Type {
		v := values(number(1), at("a", number(2)))
		return api.Type{Kind: 3, Lo: 3, Hi: 3, Texts: []string{"a", "b"}, T: []api.Type{dict(null()), truth()}, F: []api.Field{withDef("a", list(0, 1, null()), v), opt("b", truth())}, Name: "c"}
	}
	checkSame(t, full(), full(), true)
	checkSame(t, api.Type{}, api.Type{}, true)
	for i, change := range []func(*api.Type){
		func(x *api.Type) { x.Kind = 4 }, func(x *api.Type) { x.Lo = 4 }, func(x *api.Type) { x.Hi = 4 }, func(x *api.Type) { x.Name = "" }, func(x *api.Type) { x.Name = "C" },
		func(x *api.Type) { x.Texts[0] = "" }, func(x *api.Type) { x.Texts[1] = "c" }, func(x *api.Type) { x.Texts = x.Texts[:1] }, func(x *api.Type) { x.Texts = nil }, func(x *api.Type) { slices.Reverse(x.Texts) },
		func(x *api.Type) { x.T[0].Kind = 8 }, func(x *api.Type) { x.T[0].T[0].Kind = 3 }, func(x *api.Type) { x.T[1].Lo = 1 }, func(x *api.Type) { x.T = x.T[:1] }, func(x *api.Type) { x.T = nil }, func(x *api.Type) { slices.Reverse(x.T) },
		func(x *api.Type) { x.F[0].Name = "" }, func(x *api.Type) { x.F[0].Opt = true }, func(x *api.Type) { x.F[0].HasDef = false }, func(x *api.Type) { x.F[1].Opt = false }, func(x *api.Type) { x.F[1].HasDef = true },
		func(x *api.Type) { x.F[0].T.Hi = 2 }, func(x *api.Type) { x.F[0].T.T[0].Kind = 3 }, func(x *api.Type) { x.F[1].T.Kind = 2 }, func(x *api.Type) { x.F[0].Def.L[0].N = 2 }, func(x *api.Type) { x.F[0].Def.L[1].E[0].V.N = 1 }, func(x *api.Type) { x.F[0].Def.F = 1 }, func(x *api.Type) { x.F[0].Def = api.Value{} }, func(x *api.Type) { x.F[1].Def.N = 1 },
		func(x *api.Type) { x.F = x.F[:1] }, func(x *api.Type) { x.F = nil }, func(x *api.Type) { slices.Reverse(x.F) }, func(x *api.Type) { x.F[0].T, x.F[1].T = x.F[1].T, x.F[0].T },
		func(x *api.Type) { *x = api.Type{} }, func(x *api.Type) { *x = dict(*x) },
	} {
		a, b := full(), full()
		change(&a)
		if same(a, b) {
			t.Fatalf("change %d changes nothing", i)
		}
		checkSame(t, a, b, false)
		checkSame(t, a, bare(a), true)
		for around := range 5 {
			checkSame(t, nested(around, a), nested(around, b), false)
			checkSame(t, nested(around, a), nested(around, bare(a)), true)
		}
	}
}

func TestSameOrEmpty(t *testing.T) {
	empty := api.Type{Kind: api.TUnion, Texts: []string{}, T: []api.Type{}, F: []api.Field{}}
	checkSame(t, empty, union(), true)
	checkSame(t, list(0, 1, empty), list(0, 1, union()), true)
	checkSame(t, record(withDef("a", null(), api.Value{Kind: api.VList, L: []api.Value{}, E: []api.Entry{}})), record(withDef("a", null(), values())), true)
	// A name and what it stands for are two things; so are a union of one and that one.
	checkSame(t, ref("a"), ref("a"), true)
	checkSame(t, ref("a"), null(), false)
	checkSame(t, union(null()), null(), false)
	checkSame(t, union(null(), truth()), union(truth(), null()), false)
	checkSame(t, union(dict(null())), dict(union(null())), false)
	// -0 and 0 are two fractions, and so are two of no number.
	def := func(bits uint64) api.Type {
		return record(withDef("a", fraction(), api.Value{Kind: api.VFloat, F: bits}))
	}
	checkSame(t, def(0), def(1<<63), false)
	checkSame(t, def(0x7ff8000000000001), def(0x7ff8000000000001), true)
	checkSame(t, def(0x7ff8000000000001), def(0x7ff8000000000002), false)
}

func TestSameOfAllSmall(t *testing.T) {
	l := append(small(), record(field("a", null())), record(opt("a", null())), record(withDef("a", null(), api.Value{})), record(field("a", truth())), record(field("b", null())), record(field("a", null()), field("b", null())), list(0, 1, null()), list(0, 2, null()), text(0, 1), oneOf("a"))
	for i, a := range l {
		for k, b := range l {
			checkSame(t, a, b, i == k)
		}
	}
}

func TestSameOfMadeTypes(t *testing.T) {
	m := newMaker(190)
	count := map[bool]int{}
	for range 5000 {
		s := m.good()
		r := bareSchema(s)
		m.spoil(&r)
		a, b := m.typeOf(&s), m.typeOf(&r)
		checkSame(t, *a, bare(*a), true)
		checkSame(t, s.Root, r.Root, same(s.Root, r.Root))
		checkSame(t, *a, *b, same(*a, *b))
		count[same(s.Root, r.Root)]++
	}
	if count[true] < 500 || count[false] < 500 {
		t.Errorf("the same, or not: %v", count)
	}
}

// P191: what is refused of one type.

func TestGoodTypes(t *testing.T) {
	for _, x := range append(leaves(),
		whole(7, 7), whole(-5, -5), whole(math.MinInt64, math.MinInt64), text(0, math.MaxInt64), text(3, 3), oneOf("", "\x00", "A", "a", "aa", "b", "é", "\U0010ffff"), oneOf(strings.Repeat("long", 3000)), oneOf(numbered(200)...),
		list(0, 0, null()), list(0, math.MaxInt64, null()), list(5, 5, anything()), dict(anything()), dict(union()), fields(196, null()), record(field("", null()), field("\x00", null()), field("B", null()), field("a", null()), field("aa", null())), record(field(strings.Repeat("k", 100), null())), record(field(strings.Repeat("é", 50), null())),
		record(withDef("a", null(), api.Value{}), withDef("b", truth(), number(7)), withDef("c", null(), values(at("x", number(1))))), record(api.Field{Name: "a", Opt: true, HasDef: true, T: null(), Def: number(1)}),
		record(api.Field{Name: "a", T: null(), Def: api.Value{L: []api.Value{}, E: []api.Entry{}}}),
		union(null(), truth(), whole(1, 2), fraction(), text(1, 2), list(0, 1, null()), dict(null())), union(union(), union(union(), union(null())), union()),
		api.Type{Kind: api.TNull, Texts: []string{}, T: []api.Type{}, F: []api.Field{}},
	) {
		if x.Kind == api.TAny { // beside others it would clash, but it stands alone in a union
			checkSchema(t, schema(union(x, union())), api.OK)
		}
		checkType(t, x, api.OK)
	}
}

func TestKindsOfTypes(t *testing.T) {
	for _, kind := range []int{0, -1, 13, 14, 256, 257, 1<<32 + 2, math.MaxInt, math.MinInt} {
		checkType(t, leaf(kind), api.ErrKind)
	}
	checkType(t, api.Type{}, api.ErrKind)
}

// TestEachFieldOfEachKind: what it does not have is zero.
func TestEachFieldOfEachKind(t *testing.T) {
	good := map[int]api.Type{api.TInt: whole(1, 2), api.TText: text(1, 2), api.TOneOf: oneOf("a"), api.TList: list(1, 2, null()), api.TMap: dict(null()), api.TRecord: fields(1, null()), api.TUnion: union(null()), api.TRef: ref("a")}
	has := map[int]string{api.TInt: "Lo Hi", api.TText: "Lo Hi", api.TOneOf: "Texts", api.TList: "Lo Hi T", api.TMap: "T", api.TRecord: "F", api.TUnion: "T", api.TRef: "Name"}
	for kind := 1; kind <= 12; kind++ {
		for name, change := range map[string]func(*api.Type){
			"Lo":    func(x *api.Type) { x.Lo = 1 },
			"Hi":    func(x *api.Type) { x.Hi = 2 },
			"Texts": func(x *api.Type) { x.Texts = []string{"a"} },
			"T":     func(x *api.Type) { x.T = []api.Type{null()} },
			"F":     func(x *api.Type) { x.F = fields(1, null()).F },
			"Name":  func(x *api.Type) { x.Name = "a" },
		} {
			x, there := good[kind]
			if !there {
				x = leaf(kind)
			}
			change(&x)
			want := api.ErrKind
			if slices.Contains(strings.Fields(has[kind]), name) {
				want = api.OK
			}
			checkSchema(t, schema(x, def("a", null())), want)
			checkSchema(t, schema(dict(x), def("a", null())), want)
			checkSchema(t, schema(null(), def("a", null()), def("b", x)), want)
		}
	}
	// What is below 0 is not 0.
	checkType(t, api.Type{Kind: api.TAny, Lo: -1}, api.ErrKind)
	checkType(t, api.Type{Kind: api.TOneOf, Lo: -1, Hi: -1, Texts: []string{"a"}}, api.ErrKind)
	checkType(t, api.Type{Kind: api.TBool, Name: "\x00"}, api.ErrKind)
}

func TestOneElement(t *testing.T) {
	for _, kind := range []int{api.TList, api.TMap} {
		for count := range 5 {
			x := leaf(kind)
			for range count {
				x.T = append(x.T, null())
			}
			want := api.ErrKind
			if count == 1 {
				want = api.OK
			}
			checkType(t, x, want)
		}
		checkType(t, api.Type{Kind: kind, T: []api.Type{}}, api.ErrKind)
	}
}

func TestRanges(t *testing.T) {
	bounds := []int64{math.MinInt64, -2, -1, 0, 1, 2, math.MaxInt64 - 1, math.MaxInt64}
	for _, lo := range bounds {
		for _, hi := range bounds {
			both, notBelow := api.OK, api.OK
			if lo > hi {
				both = api.ErrRange
			}
			if lo > hi || lo < 0 {
				notBelow = api.ErrRange
			}
			checkType(t, whole(lo, hi), both)
			checkType(t, text(lo, hi), notBelow)
			checkType(t, list(lo, hi, null()), notBelow)
		}
	}
}

func TestTexts(t *testing.T) {
	checkType(t, oneOf(), api.ErrForm)
	checkType(t, api.Type{Kind: api.TOneOf, Texts: []string{}}, api.ErrForm)
	checkType(t, oneOf(numbered(201)...), api.ErrLarge)
	checkType(t, oneOf(numbered(500)...), api.ErrLarge)
	for _, s := range []string{"\xff", "a\x80", "\xc3", "\xc0\x80", "\xed\xa0\x80", "\xf4\x90\x80\x80", "é\xe2\x82"} {
		checkType(t, oneOf(s), api.ErrText)
		checkType(t, oneOf("", s), api.ErrText)
		checkType(t, oneOf(s, "\U0010ffff"), api.ErrText)
	}
	for _, l := range [][]string{{"a", "a"}, {"b", "a"}, {"", ""}, {"a", ""}, {"ab", "a"}, {"a", "B"}, {"é", "z"}, {"a", "c", "b"}, {"a", "b", "b"}, {"10", "1"}} {
		checkType(t, oneOf(l...), api.ErrOrder)
	}
}

func TestFields(t *testing.T) {
	checkType(t, fields(201, null()), api.ErrLarge)
	checkType(t, fields(500, null()), api.ErrLarge)
	for _, name := range []string{strings.Repeat("k", 101), strings.Repeat("é", 50) + "a", strings.Repeat("k", 5000)} {
		checkType(t, record(field(name, null())), api.ErrLarge)
		checkType(t, record(field("a", null()), opt(name, null())), api.ErrLarge)
	}
	for _, name := range []string{"\xff", "a\x80", "\xed\xa0\x80"} {
		checkType(t, record(field(name, null())), api.ErrText)
		checkType(t, record(field("", null()), field(name, null())), api.ErrText)
	}
	for _, l := range [][]string{{"a", "a"}, {"b", "a"}, {"", ""}, {"a", ""}, {"ab", "a"}, {"a", "B"}, {"a", "c", "b"}} {
		r := record()
		for _, name := range l {
			r.F = append(r.F, field(name, null()))
		}
		checkType(t, r, api.ErrOrder)
	}
	// Names are held against those of their own record.
	checkType(t, record(field("a", record(field("b", null()))), field("b", record(field("a", null())))), api.OK)
}

func TestDefaults(t *testing.T) {
	for _, c := range []struct {
		v api.Value
		e api.Errno
	}{
		{api.Value{Kind: 9}, api.ErrKind}, {api.Value{Kind: api.VBool, N: 2}, api.ErrKind}, {api.Value{N: 1}, api.ErrKind}, {api.Value{Kind: api.VText, S: "\xff"}, api.ErrText}, {api.Value{Kind: api.VText, S: strings.Repeat("x", 4001)}, api.ErrLarge}, {values(make([]api.Value, 201)...), api.ErrLarge},
		{at("\xff", number(1)), api.ErrText}, {api.Value{Kind: api.VTable, E: make([]api.Entry, 2)}, api.ErrOrder}, {deepValue(20), api.ErrDeep},
	} {
		if e := val.Check(c.v); e != c.e {
			t.Fatalf("the value %s is %d, not %d", brief(c.v), e, c.e)
		}
		checkType(t, record(withDef("a", null(), c.v)), c.e)
		checkType(t, record(field("", null()), withDef("a", null(), c.v), field("b", null())), c.e)
		// It is asked also where there is to be none, and first.
		checkType(t, record(api.Field{Name: "a", T: null(), Def: c.v}), c.e)
	}
	// Without HasDef it is the zero value, good or not.
	for _, v := range []api.Value{{Kind: api.VBool}, number(0), number(1), values(), {Kind: api.VTable}, {Kind: api.VText}, {Kind: api.VFloat}, deepValue(19)} {
		checkType(t, record(withDef("a", null(), v)), api.OK)
		checkType(t, record(api.Field{Name: "a", T: null(), Def: v}), api.ErrKind)
		checkType(t, record(api.Field{Name: "a", Opt: true, T: null(), Def: v}), api.ErrKind)
	}
	// What it is, it need not be: whether it fits is not asked here.
	checkType(t, record(withDef("a", null(), number(1)), withDef("b", union(), number(1))), api.OK)
	checkType(t, record(withDef("a", null(), deepValue(19))), api.OK)
}

// deepValue with so many lists around it.
func deepValue(around int) api.Value {
	v := api.Value{}
	for range around {
		v = values(v)
	}
	return v
}

func TestNamesOfDefs(t *testing.T) {
	long := strings.Repeat("k", 100)
	checkSchema(t, schema(union(ref(long), ref("")), def("", truth()), def(long, null())), api.OK)
	checkSchema(t, schema(null(), def(long+"k", null())), api.ErrLarge)
	checkSchema(t, schema(null(), def("a", null()), def(strings.Repeat("é", 50)+"a", null())), api.ErrLarge)
	for _, name := range []string{"\xff", "a\x80", "\xed\xa0\x80"} {
		checkSchema(t, schema(null(), def(name, null())), api.ErrText)
		checkSchema(t, schema(null(), def("", null()), def(name, null())), api.ErrText)
	}
	for _, l := range [][]string{{"a", "a"}, {"b", "a"}, {"", ""}, {"a", ""}, {"ab", "a"}, {"a", "B"}, {"a", "c", "b"}, {"a", "b", "b"}} {
		s := schema(null())
		for _, name := range l {
			s.Defs = append(s.Defs, def(name, null()))
		}
		checkSchema(t, s, api.ErrOrder)
	}
	for _, count := range []int{0, 1, 49, 50, 51, 52, 300} {
		s := schema(null())
		for _, name := range numbered(count) {
			s.Defs = append(s.Defs, def(name, null()))
		}
		want := api.OK
		if count > 50 {
			want = api.ErrLarge
		}
		checkSchema(t, s, want)
	}
}

func TestNoSuchName(t *testing.T) {
	for _, name := range []string{"", "a", "B", "aa", "c", "\xff", "b\x00", strings.Repeat("k", 101)} {
		checkSchema(t, schema(ref(name)), api.ErrNone)
		checkSchema(t, schema(ref(name), def("b", null())), api.ErrNone)
		checkSchema(t, schema(null(), def("b", ref(name))), api.ErrNone)
		checkSchema(t, schema(nested(9, ref(name)), def("b", null())), api.ErrNone)
		// A name of a field is none of a Def.
		checkSchema(t, schema(record(field("a", ref(name))), def("b", null())), api.ErrNone)
	}
	// One that stands further behind is there.
	checkSchema(t, schema(null(), def("a", ref("c")), def("b", ref("a")), def("c", null())), api.OK)
}

// P191: how many, and how deep.

func TestBoundOfTypes(t *testing.T) {
	checkSchema(t, schema(nothings(199)), api.OK)
	checkSchema(t, schema(nothings(200)), api.ErrLarge)
	checkSchema(t, schema(fields(199, null())), api.OK)
	checkSchema(t, schema(fields(200, null())), api.ErrLarge)
	checkSchema(t, schema(nothings(1000)), api.ErrLarge)
	checkSchema(t, schema(union(nothings(99), nothings(98))), api.OK)
	checkSchema(t, schema(union(nothings(99), nothings(99))), api.ErrLarge)
	// All that are come to count, in Defs, too; a name counts as one, whatever it stands for.
	checkSchema(t, schema(null(), def("a", nothings(198))), api.OK)
	checkSchema(t, schema(null(), def("a", nothings(199))), api.ErrLarge)
	checkSchema(t, schema(nothings(97), def("a", nothings(100)), def("b", null())), api.OK)
	checkSchema(t, schema(nothings(98), def("a", nothings(100)), def("b", null())), api.ErrLarge)
	checkSchema(t, schema(union(ref("a"), ref("a"), ref("a")), def("a", nothings(195))), api.OK)
	checkSchema(t, schema(union(ref("a"), ref("a"), ref("a"), ref("a")), def("a", nothings(195))), api.ErrLarge)
	s := schema(null())
	for _, name := range numbered(50) {
		s.Defs = append(s.Defs, def(name, nested(3, null())))
	}
	checkSchema(t, s, api.ErrLarge)
	s.Defs[0].T = nested(2, null())
	checkSchema(t, s, api.OK)
	s.Root = dict(null())
	checkSchema(t, s, api.ErrLarge)
}

func TestBoundOfDepth(t *testing.T) {
	for _, x := range []api.Type{null(), union(), ref("z"), record()} {
		for around := range 25 {
			want := api.OK
			if around >= 20 {
				want = api.ErrDeep
			}
			z := def("z", null())
			checkSchema(t, schema(nested(around, x), z), want)
			checkSchema(t, schema(x, def("a", nested(around, x)), z), want)
			checkSchema(t, schema(nested(1, ref("a")), def("a", nested(around, x)), z), want)
		}
	}
	for _, around := range []func(api.Type) api.Type{dict, func(x api.Type) api.Type { return union(x) }, func(x api.Type) api.Type { return list(0, 1, x) }, func(x api.Type) api.Type { return record(field("a", x)) }} {
		x := null()
		for range 19 {
			x = around(x)
		}
		checkSchema(t, schema(x), api.OK)
		checkSchema(t, schema(around(x)), api.ErrDeep)
		checkSchema(t, schema(null(), def("a", around(x))), api.ErrDeep)
	}
}

// TestTellsTheFirst of several errors.
func TestTellsTheFirst(t *testing.T) {
	bad, long := leaf(99), strings.Repeat("\xff", 101)
	many := make([]api.Def, 51)
	for i, c := range []struct {
		s api.Schema
		e api.Errno
	}{
		// Defs' names ahead of all types.
		{schema(bad, many...), api.ErrLarge},
		{schema(null(), def(long, null()), def("\xff", null())), api.ErrLarge},
		{schema(null(), def("\xff", null()), def(long, null())), api.ErrText},
		{schema(null(), def("b", null()), def("a\xff", null())), api.ErrText},
		{schema(null(), def("b", null()), def("a", null()), def("\xff", null())), api.ErrOrder},
		{schema(null(), def("a", bad), def("a", null())), api.ErrOrder},
		{schema(bad, def("a", null()), def("\xff", null())), api.ErrText},
		// Types of Defs in order, and then Root; each one ahead of its parts, and these in order.
		{schema(bad, def("a", whole(2, 1))), api.ErrRange},
		{schema(whole(2, 1), def("a", bad)), api.ErrKind},
		{schema(null(), def("a", whole(2, 1)), def("b", oneOf())), api.ErrRange},
		{schema(null(), def("a", dict(dict(oneOf()))), def("b", bad)), api.ErrForm},
		{schema(union(list(2, 1, bad), bad)), api.ErrRange},
		{schema(union(dict(whole(2, 1)), oneOf())), api.ErrRange},
		{schema(union(null(), oneOf(), bad)), api.ErrForm},
		{schema(record(field("b", bad), field("a", null()))), api.ErrOrder},
		{schema(record(field("a", union(oneOf())), field("b", bad))), api.ErrForm},
		{schema(dict(ref("a")), def("b", bad)), api.ErrKind},
		// Number, depth, Kind, range.
		{schema(union(nothings(197), bad)), api.ErrKind},
		{schema(union(nothings(198), bad)), api.ErrLarge},
		{schema(union(nothings(198), nested(30, null()))), api.ErrLarge},
		{schema(union(nothings(170), nested(30, null()))), api.ErrDeep},
		{schema(union(nested(30, null()), nothings(300))), api.ErrDeep},
		{schema(nested(20, bad)), api.ErrDeep},
		{schema(nested(19, bad)), api.ErrKind},
		{schema(nested(20, ref("a"))), api.ErrDeep},
		{schema(nested(19, list(2, 1, null()))), api.ErrRange},
		{schema(nested(19, list(1, 2, null()))), api.ErrDeep},
		{schema(api.Type{Kind: api.TInt, Lo: 2, Hi: 1, Name: "a"}), api.ErrKind},
		{schema(api.Type{Kind: api.TOneOf, Lo: 2, Hi: 1}), api.ErrKind},
		{schema(api.Type{Kind: api.TList, Lo: 2, Hi: 1}), api.ErrKind},
		{schema(api.Type{Kind: api.TRef, Name: "a", T: []api.Type{bad}}), api.ErrKind},
		{schema(list(-1, -2, bad)), api.ErrRange},
		// Texts.
		{schema(oneOf(make([]string, 201)...)), api.ErrLarge},
		{schema(oneOf("b", "a\xff")), api.ErrText},
		{schema(oneOf("b", "a", "\xff")), api.ErrOrder},
		{schema(oneOf("\xff", "a", "a")), api.ErrText},
		// Fields, one by one, ahead of their types.
		{schema(fields(201, bad)), api.ErrLarge},
		{schema(record(make([]api.Field, 201)...)), api.ErrLarge},
		{schema(record(field(long, null()), field("\xff", null()))), api.ErrLarge},
		{schema(record(field("\xff", null()), field(long, null()))), api.ErrText},
		{schema(record(field("b", null()), field("a\xff", null()))), api.ErrText},
		{schema(record(field("a", bad), field("\xff", null()))), api.ErrText},
		{schema(record(withDef("\xff", null(), api.Value{Kind: 9}))), api.ErrText},
		{schema(record(withDef("b", null(), number(1)), withDef("a", null(), api.Value{Kind: 9}))), api.ErrOrder},
		{schema(record(withDef("a", null(), api.Value{Kind: 9}), field("\xff", null()))), api.ErrKind},
		{schema(record(api.Field{Name: "a", T: null(), Def: number(1)}, field("\xff", null()))), api.ErrKind},
		{schema(record(api.Field{Name: "b", T: null(), Def: number(1)}, field("a", null()))), api.ErrKind},
		{schema(record(withDef("a", bad, api.Value{Kind: api.VText, S: "\xff"}))), api.ErrText},
		{schema(record(api.Field{Name: "a", T: null(), Def: api.Value{Kind: api.VText, S: "\xff"}})), api.ErrText},
		// What is wrong with all of them behind what is wrong with one.
		{schema(bad, def("a", ref("a"))), api.ErrKind},
		{schema(ref("b"), def("a", ref("a"))), api.ErrNone},
		{schema(union(null(), null(), bad)), api.ErrKind},
		{schema(bad, def("a", union(null(), null()))), api.ErrKind},
		{schema(union(null(), null()), def("a", ref("a"))), api.ErrType},
		{schema(null(), def("a", union(null(), null())), def("b", union(ref("b")))), api.ErrType},
		{schema(null(), def("a", union(ref("a"), null(), null()))), api.ErrType},
	} {
		if e := typ.Check(c.s); e != c.e {
			t.Errorf("schema %d: %d, not %d", i, e, c.e)
		}
		checkSchema(t, c.s, c.e)
	}
}

// P192: what comes to itself.

// chain of Defs, each of which is made of a name of the next one; the last one is made of another one.
func chain(count int, last string, made func(api.Type) api.Type) []api.Def {
	var l []api.Def
	for i, name := range numbered(count) {
		next := last
		if i < count-1 {
			next = fmt.Sprintf("%03d", i+1)
		}
		l = append(l, def(name, made(ref(next))))
	}
	return l
}

func TestCircles(t *testing.T) {
	through := map[string]func(api.Type) api.Type{
		"a name":       func(x api.Type) api.Type { return x },
		"a union":      func(x api.Type) api.Type { return union(x) },
		"unions":       func(x api.Type) api.Type { return union(union(), union(union(x))) },
		"one of a few": func(x api.Type) api.Type { return union(union(null(), truth()), x) },
		"the first":    func(x api.Type) api.Type { return union(x, list(0, 1, x)) },
	}
	for name, made := range through {
		for _, count := range []int{1, 2, 3, 7, 20} {
			for back := range count {
				s := schema(null(), chain(count, fmt.Sprintf("%03d", back), made)...)
				checkSchema(t, s, api.ErrType)
				s.Root = ref("000")
				checkSchema(t, s, api.ErrType)
				s.Root = bare(s.Defs[count-1].T)
				checkSchema(t, s, api.ErrType)
				// One that stands for nothing else ends it.
				s.Root, s.Defs[back].T = ref("000"), union()
				if e := typ.Check(s); e == api.ErrType {
					t.Errorf("through %s there is a circle of %d without one", name, count)
				}
				checkModel(t, s)
			}
		}
	}
	all := chain(50, "000", func(x api.Type) api.Type { return union(union(), x) })
	checkSchema(t, schema(null(), all...), api.ErrType)
	all = chain(50, "049", func(x api.Type) api.Type { return x })
	checkSchema(t, schema(null(), all...), api.ErrType)
}

// TestNoCircles: lists, maps and records come to nothing.
func TestNoCircles(t *testing.T) {
	for _, made := range []func(api.Type) api.Type{
		func(x api.Type) api.Type { return list(0, 1, x) },
		dict,
		func(x api.Type) api.Type { return record(field("a", x)) },
		func(x api.Type) api.Type { return record(opt("a", x), withDef("b", x, number(1))) },
		func(x api.Type) api.Type { return union(null(), list(1, 1, x), dict(x)) },
		func(x api.Type) api.Type { return union(null(), dict(union(x))) },
	} {
		for _, count := range []int{1, 2, 5, 20} {
			s := schema(ref("000"), chain(count, "000", made)...)
			checkSchema(t, s, api.OK)
			// Names between them make no circle, either; more names do.
			s.Defs = append(s.Defs, def("a", ref("b")), def("b", ref("000")))
			checkSchema(t, s, api.OK)
			s.Defs[count].T = union(ref("b"), ref("a"))
			checkSchema(t, s, api.ErrType)
		}
	}
	checkSchema(t, schema(ref("a"), def("a", union(ref("c"), ref("b"))), def("b", union(ref("c"), truth())), def("c", union())), api.OK)
}

// P192: what clashes.

// of each kind of value one type, or more.
func kindly() map[int][]api.Type {
	return map[int][]api.Type{
		api.VNull: {null()}, api.VBool: {truth()}, api.VInt: {whole(0, 1), whole(5, 6)}, api.VFloat: {fraction()},
		api.VText: {text(0, 1), text(8, 9), oneOf("a")}, api.VList: {list(0, 0, union()), list(3, 4, truth())}, api.VTable: {dict(union()), dict(null()), record(), record(field("a", null()))},
	}
}

func TestTwoOfAKind(t *testing.T) {
	for k, l := range kindly() {
		for n, r := range kindly() {
			for _, a := range l {
				for _, b := range r {
					want := api.OK
					if k == n {
						want = api.ErrClash
					}
					checkTwo(t, a, b, want)
				}
			}
		}
		for _, a := range l {
			checkTwo(t, a, anything(), api.ErrClash)
			checkTwo(t, anything(), a, api.ErrClash)
			checkTwo(t, a, union(), api.OK)
		}
	}
	checkTwo(t, anything(), anything(), api.ErrClash)
	checkTwo(t, anything(), union(), api.OK)
	checkTwo(t, union(), union(), api.OK)
}

// checkTwo types that come together in a union, by all ways.
func checkTwo(t *testing.T, a, b api.Type, want api.Errno) {
	t.Helper()
	checkType(t, union(a, b), want)
	checkType(t, union(union(a), union(), union(union(b))), want)
	checkType(t, union(union(a, b)), want)
	checkSchema(t, schema(null(), def("x", union(ref("y"), b)), def("y", a)), want)
	checkSchema(t, schema(null(), def("x", a), def("y", union(ref("x"), ref("z"))), def("z", b)), want)
	checkSchema(t, schema(dict(union(ref("x"), ref("z"))), def("x", union(a)), def("z", union(union(), b))), want)
	checkSchema(t, schema(union(ref("y"), union(ref("z"))), def("x", a), def("y", ref("x")), def("z", b)), want)
	// Not in a union they come not together.
	checkSchema(t, schema(record(field("a", a), field("b", b))), api.OK)
	checkSchema(t, schema(a, def("a", b)), api.OK)
	checkSchema(t, schema(union(list(0, 1, a), dict(b))), api.OK)
	checkSchema(t, schema(union(list(0, 1, ref("a")), null()), def("a", union(b))), api.OK)
}

// TestUnionsAreAskedWhereTheyStand: also in what nothing leads to, and also if each type is of another union.
func TestUnionsAreAskedWhereTheyStand(t *testing.T) {
	two := union(null(), null())
	for _, around := range []int{0, 1, 2, 3, 4, 8, 17, 18} {
		checkSchema(t, schema(nested(around, two)), api.ErrClash)
		checkSchema(t, schema(null(), def("a", null()), def("b", nested(around, two))), api.ErrClash)
	}
	checkSchema(t, schema(union(ref("a"), ref("a")), def("a", union())), api.OK)
	checkSchema(t, schema(union(ref("a"), ref("a")), def("a", null())), api.ErrClash)
	checkSchema(t, schema(union(list(0, 1, ref("a")), ref("a")), def("a", null())), api.OK)
	checkSchema(t, schema(union(ref("a"), ref("b")), def("a", union(null(), truth())), def("b", union(fraction(), whole(1, 2)))), api.OK)
	checkSchema(t, schema(union(ref("a"), ref("b")), def("a", union(null(), truth())), def("b", union(fraction(), truth()))), api.ErrClash)
}

// P192 and P193: parts and kinds.

func TestPartsAlone(t *testing.T) {
	for k, l := range kindly() {
		for _, x := range l {
			for _, s := range []api.Schema{schema(x), schema(union(x)), schema(union(union(), union(x), union())), schema(ref("a"), def("a", x)), schema(ref("a"), def("a", ref("b")), def("b", union(ref("c"))), def("c", x))} {
				parts, e := typ.Parts(s)
				kinds, f := typ.Kinds(s)
				if !sameTypes(parts, []api.Type{x}) || e != api.OK || !slices.Equal(kinds, []int{k}) || f != api.OK {
					t.Errorf("of %s there are %s, %v, and %d, %d", brief(s), brief(parts), kinds, e, f)
				}
			}
		}
	}
	kinds, e := typ.Kinds(schema(anything()))
	if !slices.Equal(kinds, []int{0, 1, 2, 3, 4, 5, 6}) || e != api.OK {
		t.Errorf("a type of all has the kinds %v, and %d", kinds, e)
	}
	checkSchema(t, schema(union(ref("a")), def("a", anything())), api.OK)
}

func TestPartsInOrder(t *testing.T) {
	for _, c := range []struct {
		s     api.Schema
		parts []api.Type
		kinds []int
	}{
		{schema(union()), nil, nil},
		{schema(union(union(), ref("a")), def("a", union(union()))), nil, nil},
		{schema(union(dict(null()), null(), text(1, 2))), []api.Type{dict(null()), null(), text(1, 2)}, []int{0, 4, 6}},
		{schema(union(oneOf("a"), union(list(0, 1, truth()), union(truth())), null())), []api.Type{oneOf("a"), list(0, 1, truth()), truth(), null()}, []int{0, 1, 4, 5}},
		{schema(union(fraction(), ref("b"), whole(1, 2)), def("a", union(null(), record())), def("b", union(truth(), ref("a")))), []api.Type{fraction(), truth(), null(), record(), whole(1, 2)}, []int{0, 1, 2, 3, 6}},
		{schema(ref("a"), def("a", union(ref("c"), ref("b"))), def("b", null()), def("c", truth())), []api.Type{truth(), null()}, []int{0, 1}},
		// Names within a part stay as they are.
		{schema(union(list(0, 1, ref("a")), ref("a")), def("a", union(null(), dict(ref("a"))))), []api.Type{list(0, 1, ref("a")), null(), dict(ref("a"))}, []int{0, 5, 6}},
		{schema(record(withDef("a", ref("a"), number(1)), opt("b", union(ref("a")))), def("a", whole(1, 2))), []api.Type{record(withDef("a", ref("a"), number(1)), opt("b", union(ref("a"))))}, []int{6}},
	} {
		parts, e := typ.Parts(c.s)
		if !sameTypes(parts, c.parts) || e != api.OK {
			t.Errorf("Parts(%s) is %s and %d, not %s", brief(c.s), brief(parts), e, brief(c.parts))
		}
		kinds, e := typ.Kinds(c.s)
		if !slices.Equal(kinds, c.kinds) || e != api.OK {
			t.Errorf("Kinds(%s) is %v and %d, not %v", brief(c.s), kinds, e, c.kinds)
		}
		checkSchema(t, c.s, api.OK)
	}
}

// small types over two names.
func small() []api.Type {
	leaves := []api.Type{null(), anything(), union(), ref("a"), ref("b")}
	l := slices.Clone(leaves)
	for _, x := range leaves {
		l = append(l, dict(x), union(x))
		for _, y := range leaves {
			l = append(l, union(x, y))
		}
	}
	return append(l, ref("c"), whole(2, 1), union(dict(null()), union(dict(null()))), union(dict(union(ref("a"), truth())), ref("b")))
}

func TestAllSmallSchemas(t *testing.T) {
	l := small()
	told := map[api.Errno]int{}
	for _, a := range l {
		for _, b := range l {
			for _, root := range l {
				told[checkModel(t, schema(root, def("a", a), def("b", b)))]++
				if t.Failed() {
					return
				}
			}
		}
		told[checkModel(t, schema(a))]++
		told[checkModel(t, schema(a, def("a", a)))]++
	}
	for _, e := range []api.Errno{api.OK, api.ErrNone, api.ErrRange, api.ErrType, api.ErrClash} {
		if told[e] < 100 {
			t.Errorf("%d was told %d times only", e, told[e])
		}
	}
}

func TestMadeSchemas(t *testing.T) {
	m := newMaker(191)
	count := map[int]int{}
	for range 10000 {
		s := m.good()
		if len(modelTypes(s)) > 200 {
			continue
		}
		checkSchema(t, s, api.OK)
		count[len(modelParts(s, s.Root))]++
		if t.Failed() {
			return
		}
	}
	for parts := range 5 {
		if count[parts] < 100 {
			t.Errorf("%d have %d parts only", count[parts], parts)
		}
	}
}

func TestSpoiledSchemas(t *testing.T) {
	m := newMaker(192)
	told := map[api.Errno]int{}
	for i := range 20000 {
		s := m.good()
		for range 1 + i%3 {
			m.spoil(&s)
		}
		told[checkModel(t, s)]++
		if t.Failed() {
			return
		}
	}
	for _, e := range []api.Errno{api.OK, api.ErrLarge, api.ErrText, api.ErrForm, api.ErrDeep, api.ErrRange, api.ErrNone, api.ErrKind, api.ErrType, api.ErrClash, api.ErrOrder} {
		if told[e] < 100 {
			t.Errorf("%d was told %d times only", e, told[e])
		}
	}
}

// P3: with an error there is no list.
func TestErrorsTellNothingElse(t *testing.T) {
	m := newMaker(193)
	for range 5000 {
		s := m.good()
		m.spoil(&s)
		want := typ.Check(s)
		parts, e := typ.Parts(s)
		kinds, f := typ.Kinds(s)
		if e != want || f != want || want != api.OK && (parts != nil || kinds != nil) {
			t.Fatalf("of %s, with %d, there are %s, %v, and %d, %d", brief(s), want, brief(parts), kinds, e, f)
		}
	}
}

// P1: it answers, whatever it is given.

// TestNamesAreNotWrittenOut: they would be too many, if each one came as often as it is told.
func TestNamesAreNotWrittenOut(t *testing.T) {
	check := func(s api.Schema, want api.Errno, parts []api.Type, kinds []int) {
		t.Helper()
		l, e := typ.Parts(s)
		k, f := typ.Kinds(s)
		if typ.Check(s) != want || e != want || f != want || !sameTypes(l, parts) || !slices.Equal(k, kinds) {
			t.Errorf("there are %s, %v and %d, %d, not %s, %v and %d", brief(l), k, e, f, brief(parts), kinds, want)
		}
	}
	for count, made := range map[int]func(api.Type) api.Type{
		50: func(x api.Type) api.Type { return union(x, x) },
		48: func(x api.Type) api.Type { return union(union(x), x) },
	} {
		// Each one tells the next one twice, and the last one is this.
		ends := func(root, last api.Type) api.Schema {
			l := chain(count, "000", made)
			l[count-1].T = last
			return schema(root, l...)
		}
		for _, root := range []api.Type{null(), ref("000"), ref("047")} {
			check(ends(root, ref("000")), api.ErrType, nil, nil)
			check(ends(root, union(null(), ref("025"))), api.ErrType, nil, nil)
			check(ends(root, null()), api.ErrClash, nil, nil)
			check(ends(root, anything()), api.ErrClash, nil, nil)
		}
		check(ends(ref("000"), union()), api.OK, nil, nil)
		check(ends(union(ref("000"), null(), ref("001")), union()), api.OK, []api.Type{null()}, []int{0})
	}
	once := schema(ref("000"), chain(50, "049", func(x api.Type) api.Type { return union(union(), x) })...)
	check(once, api.ErrType, nil, nil)
	once.Defs[49].T = dict(ref("000"))
	check(once, api.OK, []api.Type{dict(ref("000"))}, []int{6})
	round := schema(ref("000"), chain(40, "000", func(x api.Type) api.Type { return union(dict(x), list(0, 1, x)) })...)
	check(round, api.ErrLarge, nil, nil)
	round = schema(ref("000"), chain(39, "000", func(x api.Type) api.Type { return union(dict(x), list(0, 1, x)) })...)
	check(round, api.OK, []api.Type{dict(ref("001")), list(0, 1, ref("001"))}, []int{5, 6})
}

// TestEndless types, and those so deep that calls within calls would not answer any more.
func TestEndless(t *testing.T) {
	defer debug.SetMaxStack(debug.SetMaxStack(1 << 20))
	elements := make([]api.Type, 1)
	elements[0] = api.Type{Kind: api.TUnion, T: elements}
	ring := make([]api.Field, 2)
	ring[0], ring[1] = field("a", api.Type{Kind: api.TRecord, F: ring}), field("b", null())
	circle := make([]api.Value, 1)
	circle[0] = values(circle...)
	const deep = 200000
	for i, x := range []api.Type{elements[0], ring[0].T, nested(deep, null()), record(withDef("a", null(), circle[0])), record(withDef("a", null(), deepValue(deep)))} {
		for _, s := range []api.Schema{schema(x), schema(null(), def("a", x)), schema(dict(union(x)))} {
			parts, e := typ.Parts(s)
			kinds, f := typ.Kinds(s)
			if typ.Check(s) != api.ErrDeep || parts != nil || e != api.ErrDeep || kinds != nil || f != api.ErrDeep {
				t.Errorf("of endless type %d there are %d, %d", i, e, f)
			}
		}
	}
	v, w := nested(deep, null()), nested(deep, truth())
	if !typ.Same(v, v) || !typ.Same(v, nested(deep, null())) || typ.Same(v, w) || typ.Same(w, v) || typ.Same(v, nested(deep+1, null())) {
		t.Error("very deep types are not the same as they are")
	}
	d := func(x api.Value) api.Type { return record(withDef("a", null(), x)) }
	if !typ.Same(d(deepValue(deep)), d(deepValue(deep))) || typ.Same(d(deepValue(deep)), d(deepValue(deep+1))) {
		t.Error("types with very deep values are not the same as they are")
	}
}

func TestLargest(t *testing.T) {
	wide := union(make([]api.Type, 300000)...)
	if typ.Check(schema(wide)) != api.ErrKind || !typ.Same(wide, wide) || typ.Same(wide, union(make([]api.Type, 299999)...)) {
		t.Error("a type of very many parts is wrong")
	}
	// As many values as a schema may have.
	v := values(slices.Repeat([]api.Value{values(slices.Repeat([]api.Value{{Kind: api.VText, S: strings.Repeat("x", 4000)}}, 9)...)}, 199)...)
	r := fields(199, null())
	for i := range r.F {
		r.F[i].HasDef, r.F[i].Def = true, v
	}
	parts, e := typ.Parts(schema(r))
	if len(parts) != 1 || e != api.OK || !typ.Same(parts[0], r) {
		t.Errorf("a record of many values is %d", e)
	}
}

// P2: nothing that is handed in is changed or kept, and answers are new memory.

func TestNothingIsChanged(t *testing.T) {
	m := newMaker(2)
	for i := range 3000 {
		s := m.good()
		if i%2 == 0 {
			m.spoil(&s)
		}
		s = roomySchema(s)
		was := roomOfSchema(s)
		typ.Check(s)
		typ.Parts(s)
		typ.Kinds(s)
		typ.Same(s.Root, *m.typeOf(&s))
		if !sameSchemas(roomOfSchema(s), was) {
			t.Fatalf("what was handed in was changed: %s", brief(was))
		}
	}
}

func TestAnswersAreNewMemory(t *testing.T) {
	m := newMaker(3)
	for range 3000 {
		s := roomySchema(m.good())
		checkNewMemory(t, s)
		if t.Failed() {
			return
		}
	}
	// Two that share all where they are handed in, and values that do.
	v := roomyValue(values(number(1), at("a", values(number(2)))))
	v.L = append(v.L[:1:1], v.L[1], v.L[1])
	one := roomy(record(field("a", list(0, 1, oneOf("a", "b"))), withDef("b", dict(null()), v), withDef("c", null(), v)))
	two := roomy(list(0, 1, union(one, null())))
	two.T[0].T[0] = one
	checkNewMemory(t, roomySchema(schema(union(one, two))))
	s := schema(union(one, ref("a"), null()), def("a", two))
	checkSchema(t, s, api.OK)
	parts, _ := typ.Parts(s)
	checkApart(t, parts)
}

// checkNewMemory: can an answer be changed, and what was handed in, and nothing else shows it?
func checkNewMemory(t *testing.T, s api.Schema) {
	t.Helper()
	was := roomOfSchema(s)
	parts, _ := typ.Parts(s)
	kinds, _ := typ.Kinds(s)
	again, _ := typ.Parts(s)
	kindsAgain, _ := typ.Kinds(s)
	want, wantKinds := bare(union(again...)).T, slices.Clone(kinds)
	checkApart(t, parts)
	for i := range kinds[:cap(kinds)] {
		kinds[:cap(kinds)][i] = -7
	}
	if !sameSchemas(roomOfSchema(s), was) || !sameTypes(again, want) || !slices.Equal(kindsAgain, wantKinds) {
		t.Errorf("%s shares memory with what was handed in, or with another answer", brief(want))
	}
	scribbleSchema(s)
	if !sameTypes(again, want) || !slices.Equal(kindsAgain, wantKinds) {
		t.Errorf("%s hangs on what was handed in", brief(want))
	}
}

// checkApart: can each type of a list be changed alone, and each part within it? They are, one by one.
func checkApart(t *testing.T, l []api.Type) {
	t.Helper()
	want := bare(union(l...)).T
	for i := range l {
		if !sameTypes(l[i:], want[i:]) {
			t.Fatalf("%s share memory", brief(want))
		}
		checkApart(t, l[i].T)
		for k := range l[i].F {
			if !sameTypes([]api.Type{record(l[i].F[k:]...)}, []api.Type{record(want[i].F[k:]...)}) {
				t.Fatalf("fields of %s share memory", brief(want[i]))
			}
			checkApart(t, []api.Type{l[i].F[k].T})
			checkValuesApart(t, []api.Value{l[i].F[k].Def})
		}
		scribble(&l[i])
	}
}

func checkValuesApart(t *testing.T, l []api.Value) {
	t.Helper()
	want := bareValue(values(l...)).L
	for i := range l {
		if !sameValue(values(l[i:]...), values(want[i:]...)) {
			t.Fatalf("%s share memory", brief(want))
		}
		checkValuesApart(t, l[i].L)
		for _, e := range l[i].E {
			checkValuesApart(t, []api.Value{e.V})
		}
		scribbleValue(&l[i])
	}
}
