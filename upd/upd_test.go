package upd_test

import (
	"fmt"
	"math"
	"slices"
	"strings"
	"testing"

	"typecase/api"
	"typecase/mean"
	"typecase/path"
	"typecase/show"
	"typecase/upd"
	"typecase/val"
)

// means: the value of a document.
func means(t *testing.T, s string) api.Value {
	t.Helper()
	v, at, e := mean.Mean(s)
	if e != api.OK {
		t.Fatalf("%q is wrong at %d: %d", s, at, e)
	}
	return v
}

// read a path.
func read(t *testing.T, s string) []api.Step {
	t.Helper()
	p, e := path.Read(s)
	if e != api.OK {
		t.Fatalf("%q is no path: %d", s, e)
	}
	return p
}

func brief(x any) string { return fmt.Sprintf("%.400s", fmt.Sprint(x)) }

// checkApply: does o make this of v, and do the model and All say so, and does Undo lead back, or tell the same error?
func checkApply(t *testing.T, v api.Value, o api.Op, want api.Value, wantErr api.Errno) {
	t.Helper()
	if w, e := upd.Apply(v, o); !same(w, want) || e != wantErr {
		t.Errorf("Apply(%s, %s) is %s and %d, not %s and %d", brief(v), brief(o), brief(w), e, brief(want), wantErr)
	}
	if w, e := modelApply(v, o); !same(w, want) || e != wantErr {
		t.Errorf("the model says %s and %d of %s, %s, not %s and %d", brief(w), e, brief(v), brief(o), brief(want), wantErr)
	}
	if w, at, e := upd.All(v, []api.Op{o}); !same(w, want) || at != 0 || e != wantErr {
		t.Errorf("All(%s, %s) is %s, %d and %d, not %s and %d", brief(v), brief(o), brief(w), at, e, brief(want), wantErr)
	}
	checkUndo(t, v, o, want, wantErr)
}

// checkUndo: is what Undo answers what the model says, and does it lead back from what o has made of v?
func checkUndo(t *testing.T, v api.Value, o api.Op, made api.Value, wantErr api.Errno) {
	t.Helper()
	back, e := upd.Undo(v, o)
	want, _ := modelUndo(v, o)
	if !sameOp(back, want) || e != wantErr {
		t.Errorf("Undo(%s, %s) is %s and %d, not %s and %d", brief(v), brief(o), brief(back), e, brief(want), wantErr)
	}
	if wantErr != api.OK {
		return
	}
	if w, e := upd.Apply(made, back); !same(w, v) || e != api.OK {
		t.Errorf("%s leads from %s to %s and %d, not to %s", brief(back), brief(made), brief(w), e, brief(v))
	}
}

// trial of an update at a path: what it makes of a document, as a line; or its error.
type trial struct {
	at, want string
	e        api.Errno
}

// checkTrials of updates that are like this one.
func checkTrials(t *testing.T, doc string, o api.Op, trials []trial) {
	t.Helper()
	v := means(t, doc)
	for _, c := range trials {
		o.P = read(t, c.at)
		want := null()
		if c.e == api.OK {
			want = means(t, c.want)
			if line, _ := show.Line(want); line != c.want {
				t.Errorf("%q is told as %q", c.want, line)
			}
		}
		checkApply(t, v, o, want, c.e)
	}
}

const doc = `{a: [1, [], {x: 2}], b: {c: "x", "": null}, d: {}, e: []}`

// P140: what is set.

func TestSet(t *testing.T) {
	checkTrials(t, doc, api.Op{Kind: api.USet, V: whole(7)}, []trial{
		{"$", `7`, api.OK},
		{"$.a", `{a: 7, b: {"": null, c: "x"}, d: {}, e: []}`, api.OK},
		{"$.a[0]", `{a: [7, [], {x: 2}], b: {"": null, c: "x"}, d: {}, e: []}`, api.OK},
		{"$.a[1]", `{a: [1, 7, {x: 2}], b: {"": null, c: "x"}, d: {}, e: []}`, api.OK},
		{"$.a[2].x", `{a: [1, [], {x: 7}], b: {"": null, c: "x"}, d: {}, e: []}`, api.OK},
		{`$.b.""`, `{a: [1, [], {x: 2}], b: {"": 7, c: "x"}, d: {}, e: []}`, api.OK},
		{"$.e", `{a: [1, [], {x: 2}], b: {"": null, c: "x"}, d: {}, e: 7}`, api.OK},
		{"$.f", "", api.ErrNone}, {"$.a[3]", "", api.ErrNone}, {"$.e[0]", "", api.ErrNone}, {"$.d.a", "", api.ErrNone}, {"$.f.g", "", api.ErrNone}, {"$.a[4611686018427387904]", "", api.ErrNone},
		{"$[0]", "", api.ErrKind}, {"$.a.x", "", api.ErrKind}, {"$.a[0][0]", "", api.ErrKind}, {"$.b.c.x", "", api.ErrKind}, {"$.a[0].b[9]", "", api.ErrKind},
	})
	for _, v := range []api.Value{null(), whole(1), text("a"), list(null()), table(entry("a", null())), {Kind: api.VBool, N: 1}, {Kind: api.VFloat, F: 0x7ff8000000000001}} {
		for _, w := range []api.Value{null(), whole(-1), text(""), list(), table(entry("", list()))} {
			checkApply(t, v, api.Op{Kind: api.USet, V: w}, w, api.OK)
			checkApply(t, list(v, v), api.Op{Kind: api.USet, P: steps(place(1)), V: w}, list(v, w), api.OK)
		}
	}
}

// P140: what is added.

func TestAdd(t *testing.T) {
	checkTrials(t, doc, api.Op{Kind: api.UAdd, V: means(t, "[7, {y: 8}]")}, []trial{
		{"$.f", `{a: [1, [], {x: 2}], b: {"": null, c: "x"}, d: {}, e: [], f: [7, {y: 8}]}`, api.OK},
		{"$.A", `{A: [7, {y: 8}], a: [1, [], {x: 2}], b: {"": null, c: "x"}, d: {}, e: []}`, api.OK},
		{"$.aa", `{a: [1, [], {x: 2}], aa: [7, {y: 8}], b: {"": null, c: "x"}, d: {}, e: []}`, api.OK},
		{`$.""`, `{"": [7, {y: 8}], a: [1, [], {x: 2}], b: {"": null, c: "x"}, d: {}, e: []}`, api.OK},
		{"$.d.a", `{a: [1, [], {x: 2}], b: {"": null, c: "x"}, d: {a: [7, {y: 8}]}, e: []}`, api.OK},
		{"$.a[2].w", `{a: [1, [], {w: [7, {y: 8}], x: 2}], b: {"": null, c: "x"}, d: {}, e: []}`, api.OK},
		{"$.a[0]", `{a: [[7, {y: 8}], 1, [], {x: 2}], b: {"": null, c: "x"}, d: {}, e: []}`, api.OK},
		{"$.a[1]", `{a: [1, [7, {y: 8}], [], {x: 2}], b: {"": null, c: "x"}, d: {}, e: []}`, api.OK},
		{"$.a[2]", `{a: [1, [], [7, {y: 8}], {x: 2}], b: {"": null, c: "x"}, d: {}, e: []}`, api.OK},
		{"$.a[3]", `{a: [1, [], {x: 2}, [7, {y: 8}]], b: {"": null, c: "x"}, d: {}, e: []}`, api.OK},
		{"$.a[1][0]", `{a: [1, [[7, {y: 8}]], {x: 2}], b: {"": null, c: "x"}, d: {}, e: []}`, api.OK},
		{"$.e[0]", `{a: [1, [], {x: 2}], b: {"": null, c: "x"}, d: {}, e: [[7, {y: 8}]]}`, api.OK},
		{"$", "", api.ErrArg},
		{"$.a[4]", "", api.ErrNone}, {"$.e[1]", "", api.ErrNone}, {"$.a[4611686018427387904]", "", api.ErrNone}, {"$.f.g", "", api.ErrNone}, {"$.f[0]", "", api.ErrNone}, {"$.a[3][0]", "", api.ErrNone}, {"$.a[3].x", "", api.ErrNone},
		{"$.a", "", api.ErrThere}, {"$.e", "", api.ErrThere}, {"$.b.c", "", api.ErrThere}, {`$.b.""`, "", api.ErrThere}, {"$.a[2].x", "", api.ErrThere},
		{"$[0]", "", api.ErrKind}, {"$[9]", "", api.ErrKind}, {"$.b[0]", "", api.ErrKind}, {"$.a.x", "", api.ErrKind}, {`$.e.""`, "", api.ErrKind}, {"$.a[0].x", "", api.ErrKind}, {"$.a[0][0]", "", api.ErrKind}, {"$.b.c.x", "", api.ErrKind}, {"$.b.c[0]", "", api.ErrKind}, {"$.a.x.y", "", api.ErrKind},
	})
	for _, v := range []api.Value{null(), whole(1), text("a"), {Kind: api.VBool, N: 1}, {Kind: api.VFloat}} {
		checkApply(t, v, api.Op{Kind: api.UAdd, P: steps(place(0))}, null(), api.ErrKind)
		checkApply(t, v, api.Op{Kind: api.UAdd, P: steps(key("a"))}, null(), api.ErrKind)
		checkApply(t, v, api.Op{Kind: api.UAdd}, null(), api.ErrArg)
	}
	checkApply(t, list(), api.Op{Kind: api.UAdd, P: steps(place(math.MaxInt))}, null(), api.ErrNone)
}

// P140: what is dropped.

func TestDrop(t *testing.T) {
	checkTrials(t, doc, api.Op{Kind: api.UDrop}, []trial{
		{"$.a", `{b: {"": null, c: "x"}, d: {}, e: []}`, api.OK},
		{"$.e", `{a: [1, [], {x: 2}], b: {"": null, c: "x"}, d: {}}`, api.OK},
		{`$.b.""`, `{a: [1, [], {x: 2}], b: {c: "x"}, d: {}, e: []}`, api.OK},
		{"$.a[0]", `{a: [[], {x: 2}], b: {"": null, c: "x"}, d: {}, e: []}`, api.OK},
		{"$.a[1]", `{a: [1, {x: 2}], b: {"": null, c: "x"}, d: {}, e: []}`, api.OK},
		{"$.a[2]", `{a: [1, []], b: {"": null, c: "x"}, d: {}, e: []}`, api.OK},
		{"$.a[2].x", `{a: [1, [], {}], b: {"": null, c: "x"}, d: {}, e: []}`, api.OK},
		{"$", "", api.ErrArg},
		{"$.f", "", api.ErrNone}, {`$.""`, "", api.ErrNone}, {"$.a[3]", "", api.ErrNone}, {"$.e[0]", "", api.ErrNone}, {"$.d.a", "", api.ErrNone}, {"$.f[0]", "", api.ErrNone}, {"$.a[4611686018427387904]", "", api.ErrNone},
		{"$[0]", "", api.ErrKind}, {"$.a.x", "", api.ErrKind}, {"$.b[0]", "", api.ErrKind}, {"$.a[0][0]", "", api.ErrKind}, {"$.b.c.x", "", api.ErrKind},
	})
	checkApply(t, list(whole(1)), api.Op{Kind: api.UDrop, P: steps(place(0))}, list(), api.OK)
	checkApply(t, list(whole(1)), api.Op{Kind: api.UDrop, P: steps(place(math.MaxInt))}, null(), api.ErrNone)
	checkApply(t, null(), api.Op{Kind: api.UDrop}, null(), api.ErrArg)
}

// P140: what has another name.

func TestName(t *testing.T) {
	for name, trials := range map[string][]trial{
		"z":  {{"$.a", `{b: {"": null, c: "x"}, d: {}, e: [], z: [1, [], {x: 2}]}`, api.OK}, {"$.a[2].x", `{a: [1, [], {z: 2}], b: {"": null, c: "x"}, d: {}, e: []}`, api.OK}, {"$.z", "", api.ErrNone}, {"$", "", api.ErrArg}},
		"A":  {{"$.e", `{A: [], a: [1, [], {x: 2}], b: {"": null, c: "x"}, d: {}}`, api.OK}},
		"c":  {{"$.a", `{b: {"": null, c: "x"}, c: [1, [], {x: 2}], d: {}, e: []}`, api.OK}, {"$.e", `{a: [1, [], {x: 2}], b: {"": null, c: "x"}, c: [], d: {}}`, api.OK}, {`$.b.""`, "", api.ErrThere}, {"$.b.c", `{a: [1, [], {x: 2}], b: {"": null, c: "x"}, d: {}, e: []}`, api.OK}},
		"":   {{"$.d", `{"": {}, a: [1, [], {x: 2}], b: {"": null, c: "x"}, e: []}`, api.OK}, {"$.b.c", "", api.ErrThere}, {`$.b.""`, `{a: [1, [], {x: 2}], b: {"": null, c: "x"}, d: {}, e: []}`, api.OK}, {"$.a[0]", "", api.ErrKind}},
		"a":  {{"$.a", `{a: [1, [], {x: 2}], b: {"": null, c: "x"}, d: {}, e: []}`, api.OK}, {"$.b", "", api.ErrThere}, {"$.b.c", `{a: [1, [], {x: 2}], b: {"": null, a: "x"}, d: {}, e: []}`, api.OK}, {"$.a[0]", "", api.ErrKind}, {"$.a[2]", "", api.ErrKind}},
		"e":  {{"$.a", "", api.ErrThere}, {"$.f", "", api.ErrNone}, {"$.a[3]", "", api.ErrNone}, {"$.e[0]", "", api.ErrNone}, {"$.d.x", "", api.ErrNone}, {"$.f.g", "", api.ErrNone}},
		"ee": {{"$[0]", "", api.ErrKind}, {"$.a.x", "", api.ErrKind}, {"$.a[0].x", "", api.ErrKind}, {"$.b.c.x", "", api.ErrKind}, {"$.b[0]", "", api.ErrKind}},
	} {
		checkTrials(t, doc, api.Op{Kind: api.UName, Key: name}, trials)
	}
	one := table(entry("a", whole(1)))
	for name, want := range map[string]api.Errno{
		strings.Repeat("k", 100): api.OK, strings.Repeat("k", 101): api.ErrLarge, strings.Repeat("é", 50): api.OK, strings.Repeat("é", 51): api.ErrLarge, strings.Repeat("\xff", 101): api.ErrLarge, strings.Repeat("\xff", 100): api.ErrText,
		"\xff": api.ErrText, "\xc3": api.ErrText, "a\x80": api.ErrText, "\xed\xa0\x80": api.ErrText, "\xc0\x80": api.ErrText, "\ufffd": api.OK, "\x00": api.OK,
	} {
		made := null()
		if want == api.OK {
			made = table(entry(name, whole(1)))
		}
		checkApply(t, one, api.Op{Kind: api.UName, P: steps(key("a")), Key: name}, made, want)
	}
}

// P140: which error is told, where there are several.

func TestFirstError(t *testing.T) {
	good, bad := list(null()), api.Value{Kind: 9}
	long, strange := strings.Repeat("\xff", 101), "\xff"
	wrong, deep := steps(place(-2)), make([]api.Step, 21)
	for _, c := range []struct {
		v    api.Value
		o    api.Op
		want api.Errno
	}{
		// The value, the Kind, the path, what the Kind needs, no step, and what is there.
		{bad, api.Op{}, api.ErrKind},
		{bad, api.Op{Kind: api.USet, P: deep, V: text(strange)}, api.ErrKind},
		{noughts(201), api.Op{Kind: 5}, api.ErrLarge},
		{nested(20, null()), api.Op{Kind: api.UDrop}, api.ErrDeep},
		{table(entry("b", null()), entry("a", null())), api.Op{Kind: api.UDrop, P: steps(key("c"))}, api.ErrOrder},
		{good, api.Op{Kind: 0, P: deep, V: bad, Key: strange}, api.ErrArg},
		{good, api.Op{Kind: 5, P: deep, V: bad, Key: strange}, api.ErrArg},
		{good, api.Op{Kind: -1, P: deep}, api.ErrArg},
		{good, api.Op{Kind: math.MaxInt, P: steps(key(strange))}, api.ErrArg},
		{good, api.Op{Kind: api.USet, P: deep, V: bad}, api.ErrDeep},
		{good, api.Op{Kind: api.UAdd, P: deep, V: bad}, api.ErrDeep},
		{good, api.Op{Kind: api.UDrop, P: deep}, api.ErrDeep},
		{good, api.Op{Kind: api.UName, P: deep, Key: strange}, api.ErrDeep},
		{good, api.Op{Kind: api.USet, P: wrong, V: text(strange)}, api.ErrArg},
		{good, api.Op{Kind: api.UAdd, P: wrong, V: text(strange)}, api.ErrArg},
		{good, api.Op{Kind: api.UName, P: wrong, Key: strange}, api.ErrArg},
		{good, api.Op{Kind: api.UName, P: steps(key(strange)), Key: long}, api.ErrText},
		{good, api.Op{Kind: api.USet, P: steps(place(7)), V: text(strange)}, api.ErrText},
		{good, api.Op{Kind: api.USet, P: steps(key("a")), V: text(strange)}, api.ErrText},
		{good, api.Op{Kind: api.UAdd, V: text(strange)}, api.ErrText},
		{good, api.Op{Kind: api.UAdd, P: steps(place(7)), V: noughts(201)}, api.ErrLarge},
		{good, api.Op{Kind: api.UName, Key: long}, api.ErrLarge},
		{good, api.Op{Kind: api.UName, Key: strange}, api.ErrText},
		{good, api.Op{Kind: api.UName, P: steps(place(7)), Key: long}, api.ErrLarge},
		{good, api.Op{Kind: api.UName, P: steps(place(0)), Key: strange}, api.ErrText},
		{good, api.Op{Kind: api.UName, P: steps(place(7)), Key: "a"}, api.ErrNone},
		{good, api.Op{Kind: api.UName, P: steps(place(0)), Key: "a"}, api.ErrKind},
		{good, api.Op{Kind: api.UAdd}, api.ErrArg}, {good, api.Op{Kind: api.UDrop}, api.ErrArg}, {good, api.Op{Kind: api.UName}, api.ErrArg},
		// The last step, too, is looked at ahead of the way there.
		{good, api.Op{Kind: api.UAdd, P: steps(key("a"), place(-2))}, api.ErrArg},
		{good, api.Op{Kind: api.UAdd, P: steps(key("a"), key(strange))}, api.ErrText},
		// What would be too much is not looked at, where it can't come there.
		{noughts(200), api.Op{Kind: api.UAdd, P: steps(place(201))}, api.ErrNone},
		{noughts(200), api.Op{Kind: api.UAdd, P: steps(key("a"))}, api.ErrKind},
		{table(entry("a", nested(18, null()))), api.Op{Kind: api.UAdd, P: steps(key("a")), V: nested(19, null())}, api.ErrThere},
	} {
		checkApply(t, c.v, c.o, null(), c.want)
	}
}

// TestNotLookedAt: what an update's Kind does not need may be anything, also what has no end.
func TestNotLookedAt(t *testing.T) {
	endless := make([]api.Value, 1)
	endless[0] = list(endless...)
	v := table(entry("a", list(whole(1))))
	for _, w := range append(badValues(), endless[0]) {
		for _, p := range [][]api.Step{steps(key("a")), steps(key("a"), place(0)), steps(key("b")), nil} {
			for _, o := range []api.Op{{Kind: api.UDrop, P: p, Key: "\xff"}, {Kind: api.UName, P: p, Key: "b"}} {
				want, wantErr := modelApply(v, o)
				wantBack, _ := modelUndo(v, o)
				o.V = w
				made, e := upd.Apply(v, o)
				if !same(made, want) || e != wantErr {
					t.Errorf("of %v at %v with a V that it does not need there is %v and %d", o.Kind, p, made, e)
				}
				if back, e := upd.Undo(v, o); !sameOp(back, wantBack) || e != wantErr {
					t.Errorf("of %v at %v with a V that it does not need Undo is %v and %d", o.Kind, p, back, e)
				}
			}
		}
	}
	for _, k := range []string{"\xff", strings.Repeat("k", 101), "a"} {
		checkApply(t, v, api.Op{Kind: api.USet, P: steps(key("a")), V: whole(2), Key: k}, table(entry("a", whole(2))), api.OK)
		checkApply(t, v, api.Op{Kind: api.UAdd, P: steps(key("b")), V: whole(2), Key: k}, table(v.E[0], entry("b", whole(2))), api.OK)
		checkApply(t, v, api.Op{Kind: api.UDrop, P: steps(key("a")), Key: k}, table(), api.OK)
	}
}

// P140: what v has become is checked, too.

func TestBecomesTooLarge(t *testing.T) {
	zero := steps(place(0))
	checkApply(t, noughts(199), api.Op{Kind: api.UAdd, P: steps(place(199))}, noughts(200), api.OK)
	for _, i := range []int{0, 1, 100, 199, 200} {
		checkApply(t, noughts(200), api.Op{Kind: api.UAdd, P: steps(place(i))}, null(), api.ErrLarge)
	}
	full := table()
	for i := range 200 {
		full.E = append(full.E, entry(fmt.Sprintf("k%03d", i), null()))
	}
	checkApply(t, table(full.E[1:]...), api.Op{Kind: api.UAdd, P: steps(key("k000"))}, full, api.OK)
	for _, k := range []string{"", "k0001", "z"} {
		checkApply(t, full, api.Op{Kind: api.UAdd, P: steps(key(k))}, null(), api.ErrLarge)
		named := table(slices.Clone(full.E)...)
		named.E[7].Key = k
		slices.SortFunc(named.E, func(a, b api.Entry) int { return strings.Compare(a.Key, b.Key) })
		checkApply(t, full, api.Op{Kind: api.UName, P: steps(key("k007")), Key: k}, named, api.OK)
	}
	// 1 + 9 * 200 and more nodes.
	most := list()
	for range 9 {
		most.L = append(most.L, noughts(199))
	}
	for n, want := range map[int]api.Errno{197: api.OK, 198: api.OK, 199: api.ErrLarge, 200: api.ErrLarge} {
		made := null()
		if want == api.OK {
			made = list(append(values(noughts(n)), most.L...)...)
		}
		checkApply(t, most, api.Op{Kind: api.UAdd, P: zero, V: noughts(n)}, made, want)
		first := list(append(values(whole(1)), most.L...)...)
		checkApply(t, first, api.Op{Kind: api.USet, P: zero, V: noughts(n)}, made, want)
	}
}

// values, one behind the other.
func values(l ...api.Value) []api.Value { return l }

func TestBecomesTooDeep(t *testing.T) {
	for lists := range 20 {
		v := nested(lists, list())
		for more := range 22 {
			o := api.Op{Kind: api.UAdd, P: make([]api.Step, lists+1), V: nested(more, null())}
			want, wantErr := nested(lists, list(nested(more, null()))), api.OK
			if lists+1+more > 19 {
				want, wantErr = null(), api.ErrDeep
			}
			checkApply(t, v, o, want, wantErr)
			if lists+1 > 19 {
				continue
			}
			o.Kind = api.USet
			checkApply(t, nested(lists, list(whole(1))), o, want, wantErr)
		}
	}
	// 20 steps, the most that there may be: there is no good value so deep.
	checkApply(t, nested(19, null()), api.Op{Kind: api.USet, P: make([]api.Step, 20)}, null(), api.ErrKind)
	checkApply(t, nested(19, list()), api.Op{Kind: api.USet, P: make([]api.Step, 20)}, null(), api.ErrNone)
	checkApply(t, nested(19, list()), api.Op{Kind: api.UDrop, P: make([]api.Step, 20)}, null(), api.ErrNone)
	checkApply(t, nested(19, list()), api.Op{Kind: api.UAdd, P: make([]api.Step, 20)}, null(), api.ErrDeep)
	checkApply(t, nested(18, list()), api.Op{Kind: api.UAdd, P: make([]api.Step, 19)}, nested(19, null()), api.OK)
	// Of a value that is too large and too deep what comes first.
	wide := noughts(200)
	wide.L[199] = nested(18, null())
	checkApply(t, wide, api.Op{Kind: api.USet, P: steps(place(0)), V: nested(19, null())}, null(), api.ErrDeep)
	checkApply(t, wide, api.Op{Kind: api.UAdd, P: steps(place(0)), V: nested(19, null())}, null(), api.ErrLarge)
}

func TestMadeUpdates(t *testing.T) {
	m := newMaker(140)
	told, done := map[api.Errno]int{}, map[int]int{}
	for i := range 20000 {
		v := m.value(1 + i%5)
		o := m.update(v)
		if i%4 == 0 {
			m.spoil(&o)
		}
		if i%50 == 0 {
			v = pick(m, badValues())
		}
		want, e := modelApply(v, o)
		told[e]++
		if e == api.OK {
			done[o.Kind]++
		}
		checkApply(t, v, o, want, e)
	}
	for e := api.OK; e <= api.ErrOrder; e++ {
		if slices.Contains([]api.Errno{api.ErrForm, api.ErrTwice, api.ErrRange, api.ErrType, api.ErrFit, api.ErrClash}, e) != (told[e] == 0) {
			t.Errorf("%d was told %d times", e, told[e])
		}
	}
	for kind := api.USet; kind <= api.UName; kind++ {
		if done[kind] < 300 {
			t.Errorf("updates of Kind %d were done %d times only", kind, done[kind])
		}
	}
}

// P141: one behind the other.

// checkAll: do these make that, and does the model say so?
func checkAll(t *testing.T, v api.Value, l []api.Op, want api.Value, wantAt int, wantErr api.Errno) {
	t.Helper()
	if w, at, e := upd.All(v, l); !same(w, want) || at != wantAt || e != wantErr {
		t.Errorf("All(%s, %s) is %s, %d and %d, not %s, %d and %d", brief(v), brief(l), brief(w), at, e, brief(want), wantAt, wantErr)
	}
	if w, at, e := modelAll(v, l); !same(w, want) || at != wantAt || e != wantErr {
		t.Errorf("the model says %s, %d and %d of %s, %s", brief(w), at, e, brief(v), brief(l))
	}
}

func TestAll(t *testing.T) {
	v := means(t, "{a: [1, 2]}")
	l := []api.Op{
		{Kind: api.UAdd, P: read(t, "$.b"), V: table()},
		{Kind: api.UAdd, P: read(t, "$.b.c"), V: list(whole(3))},
		{Kind: api.UName, P: read(t, "$.b"), Key: "A"},
		{Kind: api.UDrop, P: read(t, "$.a[0]")},
		{Kind: api.UDrop, P: read(t, "$.a[0]")},
		{Kind: api.USet, P: read(t, "$.A.c[0]"), V: text("x")},
	}
	for n, want := range []string{"{a: [1, 2]}", "{a: [1, 2], b: {}}", "{a: [1, 2], b: {c: [3]}}", "{A: {c: [3]}, a: [1, 2]}", "{A: {c: [3]}, a: [2]}", "{A: {c: [3]}, a: []}", `{A: {c: ["x"]}, a: []}`} {
		checkAll(t, v, l[:n], means(t, want), 0, api.OK)
		// An error behind them, and what stands behind it.
		for _, bad := range []struct {
			o api.Op
			e api.Errno
		}{{api.Op{}, api.ErrArg}, {api.Op{Kind: api.UDrop, P: read(t, "$.z")}, api.ErrNone}, {api.Op{Kind: api.UDrop, P: read(t, "$.a.z")}, api.ErrKind}, {api.Op{Kind: api.UAdd, P: read(t, "$.a")}, api.ErrThere}, {api.Op{Kind: api.UName, P: read(t, "$.a"), Key: "\xff"}, api.ErrText}, {api.Op{Kind: api.USet, P: read(t, "$.a"), V: nested(19, null())}, api.ErrDeep}} {
			spoiled := append(slices.Clone(l[:n]), bad.o)
			checkAll(t, v, spoiled, null(), n, bad.e)
			checkAll(t, v, append(spoiled, api.Op{Kind: 9, P: steps(place(-2))}), null(), n, bad.e)
		}
	}
	// Each on what the one ahead of it has made, not on v.
	checkAll(t, v, []api.Op{l[1], l[0]}, null(), 0, api.ErrNone)
	checkAll(t, v, []api.Op{l[0], l[0]}, null(), 1, api.ErrThere)
	checkAll(t, v, []api.Op{l[3], l[3], l[3]}, null(), 2, api.ErrNone)
}

func TestAllWithoutUpdates(t *testing.T) {
	for _, v := range []api.Value{null(), whole(7), table(entry("a", list(null()))), nested(19, null()), noughts(200)} {
		checkAll(t, v, nil, v, 0, api.OK)
		checkAll(t, v, []api.Op{}, v, 0, api.OK)
	}
	for _, v := range badValues() {
		e := val.Check(v)
		if e == api.OK {
			t.Errorf("%s is good", brief(v))
		}
		checkAll(t, v, nil, null(), 0, e)
		checkAll(t, v, []api.Op{{Kind: api.USet, V: whole(1)}, {Kind: 9}}, null(), 0, e)
		checkAll(t, v, []api.Op{{Kind: 9}, {Kind: api.USet}}, null(), 0, e)
	}
}

// TestAllMayNotPassThrough what is not good, even if what stands behind would make it good again.
func TestAllMayNotPassThrough(t *testing.T) {
	add, drop := api.Op{Kind: api.UAdd, P: steps(place(0))}, api.Op{Kind: api.UDrop, P: steps(place(0))}
	checkAll(t, noughts(200), []api.Op{drop, add}, noughts(200), 0, api.OK)
	checkAll(t, noughts(200), []api.Op{add, drop}, null(), 0, api.ErrLarge)
	checkAll(t, noughts(199), []api.Op{add, add, drop}, null(), 1, api.ErrLarge)
}

func TestAllOfMadeUpdates(t *testing.T) {
	m := newMaker(141)
	good := 0
	for i := range 3000 {
		v := m.value(2 + i%4)
		var l []api.Op
		for here := v; len(l) < i%9; {
			o := m.update(here)
			next, e := modelApply(here, o)
			if e != api.OK && m.IntN(8) != 0 {
				continue
			}
			l = append(l, o)
			if e == api.OK {
				here = next
			}
		}
		want, at, e := modelAll(v, l)
		if e == api.OK && len(l) > 0 {
			good++
		}
		checkAll(t, v, l, want, at, e)
		if e == api.OK {
			checkAllBack(t, v, l, want)
		}
	}
	if good < 500 {
		t.Errorf("%d lists of updates were done only", good)
	}
}

// checkAllBack: do the undoings of all of these, the last one first, lead back to v?
func checkAllBack(t *testing.T, v api.Value, l []api.Op, made api.Value) {
	t.Helper()
	var back []api.Op
	here := v
	for _, o := range l {
		u, _ := upd.Undo(here, o)
		back = append([]api.Op{u}, back...)
		here, _ = upd.Apply(here, o)
	}
	if w, at, e := upd.All(made, back); !same(w, v) || at != 0 || e != api.OK {
		t.Errorf("%s leads back from %s to %s and %d, not to %s", brief(back), brief(made), brief(w), e, brief(v))
	}
}

// P142: what leads back.

func TestUndo(t *testing.T) {
	v := means(t, doc)
	seven := list(whole(7))
	for _, c := range []struct {
		kind   int
		at     string
		key    string
		want   int
		wantAt string
		value  api.Value
		name   string
	}{
		{api.USet, "$", "z", api.USet, "$", v, ""},
		{api.USet, "$.a[2]", "z", api.USet, "$.a[2]", table(entry("x", whole(2))), ""},
		{api.USet, `$.b.""`, "z", api.USet, `$.b.""`, null(), ""},
		{api.UAdd, "$.f", "z", api.UDrop, "$.f", null(), ""},
		{api.UAdd, "$.a[0]", "z", api.UDrop, "$.a[0]", null(), ""},
		{api.UAdd, "$.a[3]", "z", api.UDrop, "$.a[3]", null(), ""},
		{api.UDrop, "$.a", "z", api.UAdd, "$.a", v.E[0].V, ""},
		{api.UDrop, "$.a[0]", "z", api.UAdd, "$.a[0]", whole(1), ""},
		{api.UDrop, "$.a[2]", "z", api.UAdd, "$.a[2]", table(entry("x", whole(2))), ""},
		{api.UDrop, "$.d", "z", api.UAdd, "$.d", table(), ""},
		{api.UName, "$.a", "z", api.UName, "$.z", null(), "a"},
		{api.UName, "$.a", "a", api.UName, "$.a", null(), "a"},
		{api.UName, "$.a[2].x", "null", api.UName, `$.a[2]."null"`, null(), "x"},
		{api.UName, `$.b.""`, "d", api.UName, "$.b.d", null(), ""},
		{api.UName, "$.b.c", "a b", api.UName, `$.b."a b"`, null(), "c"},
	} {
		o := api.Op{Kind: c.kind, P: read(t, c.at), V: seven, Key: c.key}
		want := api.Op{Kind: c.want, P: read(t, c.wantAt), V: c.value, Key: c.name}
		back, e := upd.Undo(v, o)
		if !sameOp(back, want) || e != api.OK {
			t.Errorf("Undo of %v is %v and %d, not %v", o, back, e, want)
		}
		made, _ := upd.Apply(v, o)
		checkUndo(t, v, o, made, api.OK)
		// And what leads back from there does what the update did.
		forth, e := upd.Undo(made, back)
		if w, f := upd.Apply(v, forth); !same(w, made) || e != api.OK || f != api.OK {
			t.Errorf("Undo of Undo of %v is %v", o, forth)
		}
	}
}

// P1: what is very deep, or has no end at all, is told as what it is.

func TestEndlessValues(t *testing.T) {
	elements := make([]api.Value, 3)
	elements[0] = list(elements...)
	entries := []api.Entry{entry("a", null())}
	entries[0].V = table(entries...)
	for _, endless := range []api.Value{elements[0], entries[0].V, nested(200000, null())} {
		for _, o := range []api.Op{{}, {Kind: api.USet, V: null()}, {Kind: api.UDrop, P: steps(place(0))}, {Kind: api.UName, P: steps(key("a")), Key: "b"}} {
			checkEndless(t, endless, o)
		}
		checkEndless(t, null(), api.Op{Kind: api.USet, V: endless})
		checkEndless(t, list(), api.Op{Kind: api.UAdd, P: steps(place(0)), V: endless})
		if w, at, e := upd.All(endless, nil); !same(w, null()) || at != 0 || e != api.ErrDeep {
			t.Errorf("of what has no end there is %s, %d and %d", brief(w), at, e)
		}
	}
}

// checkEndless: is ErrDeep all that is told?
func checkEndless(t *testing.T, v api.Value, o api.Op) {
	t.Helper()
	if w, e := upd.Apply(v, o); !same(w, null()) || e != api.ErrDeep {
		t.Errorf("of what has no end there is %s and %d", brief(w), e)
	}
	if w, at, e := upd.All(v, []api.Op{o, o}); !same(w, null()) || at != 0 || e != api.ErrDeep {
		t.Errorf("of what has no end there is %s, %d and %d", brief(w), at, e)
	}
	if back, e := upd.Undo(v, o); !sameOp(back, api.Op{}) || e != api.ErrDeep {
		t.Errorf("of what has no end there is %s and %d", brief(back), e)
	}
}

// P2: nothing that is handed in is changed or kept, and answers are new memory.

// roomyCase: a value and an update of it, with room behind each of their lists.
func (m maker) roomyCase(i int) (v api.Value, o api.Op) {
	v = roomy(m.value(2 + i%4))
	o = m.update(v)
	o.V = roomy(o.V)
	o.P = append(slices.Clone(o.P), key("behind"), place(7))[:len(o.P)]
	return v, o
}

func TestNothingIsChanged(t *testing.T) {
	m := newMaker(2)
	for i := range 3000 {
		v, o := m.roomyCase(i)
		was, put, way := roomOf(v), roomOf(o.V), slices.Clone(o.P[:len(o.P)+2])
		l := []api.Op{o, o, {Kind: 77}}[:2]
		upd.Apply(v, o)
		upd.Undo(v, o)
		upd.All(v, l)
		if !same(roomOf(v), was) || !same(roomOf(o.V), put) || !slices.Equal(o.P[:len(o.P)+2], way) || l[:3][2].Kind != 77 || !sameOp(l[0], l[1]) {
			t.Fatalf("an update of %s by %s has changed what was handed in", brief(was), brief(o))
		}
	}
}

func TestAnswersAreNewMemory(t *testing.T) {
	m := newMaker(3)
	for i := range 3000 {
		v, o := m.roomyCase(i)
		was, put, way := roomOf(v), roomOf(o.V), slices.Clone(o.P[:len(o.P)+2])
		made, e := upd.Apply(v, o)
		all, _, _ := upd.All(v, []api.Op{o})
		none, _, _ := upd.All(v, nil)
		back, _ := upd.Undo(v, o)
		if e != api.OK {
			continue
		}
		wantMade, wantBack, wantNone := bare(made), bareOp(back), bare(none)
		scribble(&made)
		scribble(&none)
		scribbleOp(&back)
		if !same(roomOf(v), was) || !same(roomOf(o.V), put) || !slices.Equal(o.P[:len(o.P)+2], way) || !same(all, wantMade) {
			t.Fatalf("what %s makes of %s shares memory with what was handed in", brief(o), brief(was))
		}
		made, _ = upd.Apply(v, o)
		none, _, _ = upd.All(v, nil)
		back, _ = upd.Undo(v, o)
		scribble(&v)
		scribbleOp(&o)
		if !same(made, wantMade) || !same(none, wantNone) || !sameOp(back, wantBack) {
			t.Fatalf("what was made of %s hangs on what was handed in", brief(was))
		}
	}
}

// TestPartsShareNothing, though they do where they are handed in.
func TestPartsShareNothing(t *testing.T) {
	part := list(whole(1), table(entry("x", list(null()))))
	for _, v := range []api.Value{list(part, part, part), table(entry("a", part), entry("b", part), entry("c", part))} {
		for _, p := range [][]api.Step{nil, steps(place(1)), steps(key("b")), steps(place(0), place(1)), steps(key("a"), place(1)), steps(place(3)), steps(key("d")), steps(place(1), place(2)), steps(key("b"), place(2))} {
			for kind := api.USet; kind <= api.UName; kind++ {
				made, e := upd.Apply(v, api.Op{Kind: kind, P: p, V: list(part, part), Key: "aa"})
				if e != api.OK {
					continue
				}
				checkParts(t, made)
			}
		}
	}
	if !same(part, list(whole(1), table(entry("x", list(null()))))) {
		t.Error("what was handed in was changed")
	}
	// What two updates put is put twice, not shared.
	twice := api.Op{Kind: api.UAdd, P: steps(place(0)), V: part}
	made, _, _ := upd.All(list(), []api.Op{twice, twice})
	checkParts(t, made)
	v := list(part, part)
	made, _ = upd.Apply(list(v, v), api.Op{Kind: api.USet, P: steps(place(0)), V: v})
	checkParts(t, made)
	back, _ := upd.Undo(list(part, part), api.Op{Kind: api.USet})
	checkParts(t, back.V)
}

// checkParts of a value, and theirs: can each one be changed alone?
func checkParts(t *testing.T, v api.Value) {
	t.Helper()
	was := bare(v)
	parts := v.L
	for i := range v.E {
		parts = append(parts[:len(parts):len(parts)], v.E[i].V)
	}
	wantParts := was.L
	for _, e := range was.E {
		wantParts = append(wantParts, e.V)
	}
	for i := range parts {
		checkParts(t, parts[i])
		for k := i + 1; k < len(parts); k++ {
			if !same(parts[k], wantParts[k]) {
				t.Fatalf("parts %d and %d of %s share memory", i, k, brief(was))
			}
		}
		scribble(&parts[i])
	}
}
