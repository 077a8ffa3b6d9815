package diff_test

import (
	"fmt"
	"slices"
	"strings"
	"testing"

	"typecase/api"
	"typecase/diff"
	"typecase/mean"
	"typecase/path"
	"typecase/upd"
	"typecase/val"
)

// means: the value of a document.
func means(t *testing.T, s string) api.Value {
	t.Helper()
	v, at, e := mean.Mean(s)
	if e != api.OK {
		t.Fatalf("%q is wrong at %d: %d", s, at, e)
	}
	return v
}

// read a path.
func read(t *testing.T, s string) []api.Step {
	t.Helper()
	p, e := path.Read(s)
	if e != api.OK {
		t.Fatalf("%q is no path: %d", s, e)
	}
	return p
}

func brief(x any) string { return fmt.Sprintf("%.400s", fmt.Sprint(x)) }

// checkFar: are they so far apart, there and back, does the model say so, and is there a way that costs that?
func checkFar(t *testing.T, a, b api.Value, want int) {
	t.Helper()
	if n := modelFar(a, b); n != want {
		t.Errorf("the model says %d of %s and %s, not %d", n, brief(a), brief(b), want)
	}
	for _, p := range [][2]api.Value{{a, b}, {b, a}} {
		if n, e := diff.Far(p[0], p[1]); n != want || e != api.OK {
			t.Errorf("Far(%s, %s) is %d and %d, not %d", brief(p[0]), brief(p[1]), n, e, want)
		}
		checkDiff(t, p[0], p[1], want)
	}
}

// checkDiff: do updates lead from a to b, do they cost that, and have they no more than they need?
func checkDiff(t *testing.T, a, b api.Value, want int) {
	t.Helper()
	l, e := diff.Diff(a, b)
	if e != api.OK {
		t.Errorf("Diff(%s, %s) is %d", brief(a), brief(b), e)
	}
	if made, at, e := upd.All(a, l); e != api.OK || val.Compare(made, b) != 0 || !same(made, b) {
		t.Errorf("%s leads from %s to %s, %d and %d, not to %s", brief(l), brief(a), brief(made), at, e, brief(b))
	}
	if n, e := diff.Cost(a, l); n != want || e != api.OK {
		t.Errorf("%s costs %d and %d, not %d", brief(l), n, e, want)
	}
	if n, e := modelCost(a, l); n != want || e != api.OK {
		t.Errorf("the model says %d and %d of %s, not %d", n, e, brief(l), want)
	}
	for _, o := range l {
		needsKey, needsValue := o.Kind == api.UName, o.Kind == api.USet || o.Kind == api.UAdd
		if o.Key != "" && !needsKey || !same(o.V, null()) && !needsValue {
			t.Errorf("%s has what it does not need", brief(o))
		}
	}
	if want == 0 && len(l) > 0 {
		t.Errorf("from %s to itself %s is told", brief(a), brief(l))
	}
	if again, _ := diff.Diff(a, b); !sameOps(again, l) {
		t.Errorf("from %s to %s there is now %s, and now %s", brief(a), brief(b), brief(l), brief(again))
	}
}

// checkRefused: does each of Far and Diff tell that, and nothing else?
func checkRefused(t *testing.T, a, b api.Value, want api.Errno) {
	t.Helper()
	if n, e := diff.Far(a, b); n != 0 || e != want {
		t.Errorf("Far(%s, %s) is %d and %d, not %d", brief(a), brief(b), n, e, want)
	}
	if l, e := diff.Diff(a, b); len(l) > 0 || e != want {
		t.Errorf("Diff(%s, %s) is %s and %d, not %d", brief(a), brief(b), brief(l), e, want)
	}
}

// checkCost: do the updates cost that, or is that their error, and does the model say so?
func checkCost(t *testing.T, v api.Value, l []api.Op, want int, wantErr api.Errno) {
	t.Helper()
	if n, e := diff.Cost(v, l); n != want || e != wantErr {
		t.Errorf("Cost(%s, %s) is %d and %d, not %d and %d", brief(v), brief(l), n, e, want, wantErr)
	}
	if n, e := modelCost(v, l); n != want || e != wantErr {
		t.Errorf("the model says %d and %d of %s, %s, not %d and %d", n, e, brief(v), brief(l), want, wantErr)
	}
}

// pairOfDocs, and how far they are apart.
type pairOfDocs struct {
	a, b string
	want int
}

func checkDocs(t *testing.T, l []pairOfDocs) {
	t.Helper()
	for _, c := range l {
		checkFar(t, means(t, c.a), means(t, c.b), c.want)
	}
}

// P170: how far.

func TestFarOfLeaves(t *testing.T) {
	for i, a := range leaves() {
		for k, b := range leaves() {
			want := 2
			if i == k {
				want = 0
			}
			checkFar(t, a, b, want)
			checkFar(t, list(whole(7), a), list(whole(7), b), want)
			checkFar(t, table(entry("a", a), entry("b", whole(7))), table(entry("a", b), entry("b", whole(7))), want)
		}
	}
	long := strings.Repeat("x", 4000)
	checkFar(t, text(long), text(long), 0)
	checkFar(t, text(long), text(long[1:]), 2)
}

func TestFarOfOtherKinds(t *testing.T) {
	checkDocs(t, []pairOfDocs{
		{`[]`, `{}`, 2}, {`1`, `[1]`, 3}, {`[1]`, `{a: 1}`, 4}, {`{a: 1}`, `1`, 3},
		{`[1, [2, 3], {a: 4}]`, `{a: [1, 2]}`, 11}, {`[[[]]]`, `null`, 4}, {`{a: {b: {c: 1}}}`, `[1, 2, 3]`, 8},
		// A list may be an element of the other one, and still.
		{`[1, 2]`, `[[1, 2]]`, 5}, {`{a: 1, b: 2}`, `{a: {a: 1, b: 2}}`, 5},
	})
}

func TestFarOfTables(t *testing.T) {
	checkDocs(t, []pairOfDocs{
		{`{}`, `{}`, 0}, {`{a: 1}`, `{a: 1}`, 0}, {`{a: 1, b: 2}`, `{b: 2, a: 1}`, 0},
		{`{}`, `{a: 1}`, 1}, {`{}`, `{a: [1, 2]}`, 3}, {`{}`, `{a: {b: {}}, c: 1}`, 3},
		{`{a: 1}`, `{a: 2}`, 2}, {`{a: 1}`, `{b: 1}`, 2}, {`{a: [1, 2, 3]}`, `{b: [1, 2, 3]}`, 8},
		{`{a: 1, c: 3}`, `{b: 2}`, 3}, {`{b: 2}`, `{a: 1, b: 2, c: 3}`, 2}, {`{a: 1, b: 2, c: 3}`, `{b: 9}`, 4},
		{`{a: [1]}`, `{a: {a: 1}}`, 4}, {`{a: [1, 2]}`, `{a: [2]}`, 1}, {`{a: {b: {c: 1}}}`, `{a: {b: {c: 2}}}`, 2},
		{`{a: {b: {c: 1}, d: 2}}`, `{a: {b: {e: 1}, d: 2}}`, 2},
		{`{"": 1, A: 2}`, `{"": 2, a: 2}`, 4}, {`{a: null}`, `{}`, 1}, {`{a: []}`, `{a: {}}`, 2},
		{`{a: 1, b: [1, 2]}`, `{b: [1, 2, 3], c: {d: 1}}`, 4},
	})
	checkFar(t, entries(99, null()), entries(99, null()), 0)
	checkFar(t, entries(99, null()), entries(99, whole(1)), 198)
	checkFar(t, entries(99, null()), table(), 99)
	other := entries(99, null())
	for i := range other.E {
		other.E[i].Key += "'"
	}
	checkFar(t, entries(99, null()), other, 198)
}

func TestFarOfLists(t *testing.T) {
	checkDocs(t, []pairOfDocs{
		{`[]`, `[]`, 0}, {`[]`, `[1]`, 1}, {`[]`, `[[1, 2], {a: 3}]`, 5}, {`[1, 2, 3]`, `[1, 2, 3]`, 0},
		{`[1]`, `[2]`, 2}, {`[1, 2]`, `[2, 1]`, 2}, {`[1, 2, 3]`, `[1, 3]`, 1}, {`[1, 2, 3]`, `[2, 3]`, 1}, {`[1, 2, 3]`, `[1, 2]`, 1},
		{`[1, 2, 3, 4]`, `[4, 3, 2, 1]`, 6}, {`[1, 1, 1, 2]`, `[2, 1, 1, 1]`, 2}, {`[1, 2, 3, 4, 5]`, `[9, 2, 4, 9]`, 5}, {`[1, 1]`, `[1, 1, 1, 1]`, 2},
		// An element becomes another one, where that is cheaper; and what is nearer counts, not what stands at the same place.
		{`[1, [2, 3]]`, `[1, [2, 4]]`, 2}, {`[[1, 2, 3], 4]`, `[4, [1, 2, 3]]`, 2}, {`[[1, 2, 3]]`, `[[9], [1, 2, 3, 4]]`, 3},
		{`[[1, 2, 3], [4, 5, 6]]`, `[[4, 5, 6, 7]]`, 5}, {`[[1], [1, 2], [1, 2, 3]]`, `[[1, 2], [1, 2, 3], [1, 2, 3, 4]]`, 3},
		{`[{a: 1, b: 2}, {a: 3, b: 4}]`, `[{a: 3, b: 5}]`, 5}, {`[{a: [1, 2, 3, 4]}, 7]`, `[8, {a: [1, 2, 3, 5]}]`, 4},
		// What is taken first is not always the best: the first nought that is met leads past the long list.
		{`[0, [1, 2, 3, 4, 5]]`, `[[1, 2, 3, 4, 5], 0]`, 2}, {`[[1, 2], [1, 2, 3, 4, 5]]`, `[[1, 2, 3, 4, 6], [9]]`, 7}, {`[[1, 2, 3], 0, 0]`, `[0, [1, 2, 3], 0]`, 2},
		// A list stays a list, but not a table.
		{`[[1, 2]]`, `[{a: 1, b: 2}]`, 6}, {`[[]]`, `[{}]`, 2}, {`[[]]`, `[[[]]]`, 1}, {`[[[1]]]`, `[[1]]`, 3}, {`[[1], [2]]`, `[[1, 2]]`, 3},
	})
	checkFar(t, noughts(99), noughts(99), 0)
	checkFar(t, noughts(198), list(), 198)
	checkFar(t, noughts(100), noughts(98), 2)
	checkFar(t, noughts(99), times(99, whole(1)), 198)
	checkFar(t, nested(19, null()), nested(19, whole(1)), 2)
	checkFar(t, nested(19, list()), nested(19, list()), 0)
	checkFar(t, nested(18, list()), nested(18, noughts(100)), 100)
	checkFar(t, nested(19, null()), nested(18, null()), 3)
}

func TestFarOfAllSmallValues(t *testing.T) {
	l := valuesUpTo(3)
	for _, a := range l {
		for _, b := range l {
			checkFar(t, a, b, modelFar(a, b))
		}
	}
	// Longer lists, of few leaves.
	var rows []api.Value
	for length := range 5 {
		for n := range 1 << (2 * length) {
			row := list()
			for i := range length {
				row.L = append(row.L, []api.Value{null(), whole(1), list(), noughts(2)}[n>>(2*i)%4])
			}
			rows = append(rows, row)
		}
	}
	for i, a := range rows {
		for k := i % 7; k < len(rows); k += 7 {
			checkFar(t, a, rows[k], modelFar(a, rows[k]))
		}
	}
}

func TestFarOfMadeValues(t *testing.T) {
	m := newMaker(170)
	near := 0
	for i := range 3000 {
		a, b := m.value(2+i%4), m.value(2+i%4)
		if i%3 > 0 {
			b = m.changed(a)
		}
		if e := modelErr(a, b); e != api.OK {
			checkRefused(t, a, b, e)
			continue
		}
		want := modelFar(a, b)
		if 0 < want && want < size(a)+size(b) {
			near++
		}
		checkFar(t, a, b, want)
	}
	if near < 500 {
		t.Errorf("%d pairs were near each other only", near)
	}
}

// TestNoWayIsCheaper than Far: no update is, and there is no short cut over a third value.
func TestNoWayIsCheaper(t *testing.T) {
	m := newMaker(171)
	for i := range 20000 {
		v := m.value(2 + i%3)
		o := m.update(v)
		made, e := upd.Apply(v, o)
		if e != api.OK || modelErr(v, made) != api.OK {
			continue
		}
		cost, _ := diff.Cost(v, []api.Op{o})
		if far, _ := diff.Far(v, made); far > cost {
			t.Errorf("%s costs %d, but %s and %s are %d apart", brief(o), cost, brief(v), brief(made), far)
		}
	}
	l := valuesUpTo(3)
	far := make([][]int, len(l))
	for i, a := range l {
		for _, b := range l {
			n, _ := diff.Far(a, b)
			far[i] = append(far[i], n)
		}
	}
	for i := range l {
		for k := range l {
			for by := range l {
				if far[i][k] > far[i][by]+far[by][k] {
					t.Errorf("over %v it is nearer from %v to %v", l[by], l[i], l[k])
				}
			}
		}
	}
}

// P170: what is refused.

func TestRefused(t *testing.T) {
	for _, bad := range badValues() {
		e := val.Check(bad)
		if e == api.OK {
			t.Errorf("%s is good", brief(bad))
		}
		for _, v := range []api.Value{null(), list(whole(1)), noughts(200), times(9, noughts(200))} {
			checkRefused(t, bad, v, e)
			checkRefused(t, v, bad, e)
		}
		checkCost(t, bad, nil, 0, e)
		checkCost(t, bad, []api.Op{{Kind: api.USet}}, 0, e)
		checkCost(t, bad, []api.Op{{Kind: 9}}, 0, e)
		// The first value's error is told first, also where both are the same one.
		for _, other := range badValues() {
			checkRefused(t, bad, other, e)
		}
		checkRefused(t, bad, bad, e)
	}
}

func TestBoundOfNodes(t *testing.T) {
	for _, nodes := range [][2]int{{1, 199}, {2, 198}, {100, 100}, {150, 50}, {199, 1}} {
		for more := range 4 {
			a, b := noughts(nodes[0]-1), noughts(nodes[1]-1+more)
			if more == 0 {
				checkFar(t, a, b, modelFar(a, b))
				continue
			}
			checkRefused(t, a, b, api.ErrLarge)
			checkRefused(t, b, a, api.ErrLarge)
		}
	}
	// Also where they are the same, or of no parts in common: 2 + 2 * 99, and one more.
	checkFar(t, entries(99, null()), noughts(99), 200)
	checkRefused(t, noughts(100), noughts(100), api.ErrLarge)
	checkRefused(t, entries(100, null()), entries(99, null()), api.ErrLarge)
	checkRefused(t, times(9, noughts(200)), null(), api.ErrLarge)
	// All nodes count, not elements only.
	checkFar(t, list(noughts(97)), list(noughts(98)), 1)
	checkRefused(t, list(noughts(98)), list(noughts(99)), api.ErrLarge)
	checkFar(t, nested(19, noughts(0)), list(nested(18, noughts(0)), noughts(158)), 159)
}

// P171: what updates cost.

const doc = `{a: [1, [2, 3], {x: 4}], b: {c: "x", "": null}, d: {}, e: []}`

func TestCostOfOne(t *testing.T) {
	v := means(t, doc)
	put := means(t, `[7, {y: 8}]`)
	for _, c := range []struct {
		kind int
		at   string
		name string
		want int
		e    api.Errno
	}{
		{api.USet, "$", "", 13 + 4, api.OK}, {api.USet, "$.a", "", 7 + 4, api.OK}, {api.USet, "$.a[0]", "", 1 + 4, api.OK}, {api.USet, "$.a[2]", "", 2 + 4, api.OK}, {api.USet, `$.b.""`, "", 1 + 4, api.OK},
		{api.UAdd, "$.f", "", 4, api.OK}, {api.UAdd, "$.a[0]", "", 4, api.OK}, {api.UAdd, "$.a[3]", "", 4, api.OK}, {api.UAdd, "$.a[1][1]", "", 4, api.OK}, {api.UAdd, "$.b.d", "", 4, api.OK},
		{api.UDrop, "$.a", "", 7, api.OK}, {api.UDrop, "$.a[1]", "", 3, api.OK}, {api.UDrop, "$.a[2].x", "", 1, api.OK}, {api.UDrop, "$.e", "", 1, api.OK},
		{api.UName, "$.a", "z", 14, api.OK}, {api.UName, "$.b", "z", 6, api.OK}, {api.UName, "$.a[2].x", "y", 2, api.OK}, {api.UName, "$.d", "", 2, api.OK},
		// One that changes nothing costs, too.
		{api.UName, "$.a", "a", 14, api.OK}, {api.UName, "$.a[2].x", "x", 2, api.OK},
		{api.USet, "$.z", "", 0, api.ErrNone}, {api.USet, "$[0]", "", 0, api.ErrKind}, {api.UAdd, "$.a", "", 0, api.ErrThere}, {api.UAdd, "$", "", 0, api.ErrArg}, {api.UAdd, "$.a[4]", "", 0, api.ErrNone},
		{api.UDrop, "$", "", 0, api.ErrArg}, {api.UDrop, "$.a[3]", "", 0, api.ErrNone}, {api.UName, "$.a", "b", 0, api.ErrThere}, {api.UName, "$.a[0]", "z", 0, api.ErrKind}, {api.UName, "$.a", "\xff", 0, api.ErrText},
		{0, "$.a", "z", 0, api.ErrArg}, {5, "$.a", "z", 0, api.ErrArg}, {-1, "$", "", 0, api.ErrArg},
	} {
		checkCost(t, v, []api.Op{{Kind: c.kind, P: read(t, c.at), V: put, Key: c.name}}, c.want, c.e)
	}
	checkCost(t, v, []api.Op{{Kind: api.USet, V: v}}, 26, api.OK)
	checkCost(t, v, []api.Op{{Kind: api.USet, P: read(t, "$.e"), V: list()}}, 2, api.OK)
	checkCost(t, null(), []api.Op{{Kind: api.USet}}, 2, api.OK)
	for _, bad := range badValues() {
		checkCost(t, v, []api.Op{{Kind: api.USet, V: bad}}, 0, val.Check(bad))
		checkCost(t, v, []api.Op{{Kind: api.UAdd, P: read(t, "$.f"), V: bad}}, 0, val.Check(bad))
	}
}

func TestCostOfMany(t *testing.T) {
	v := means(t, `{a: [1, 2]}`)
	l := []api.Op{
		{Kind: api.UName, P: read(t, "$.a"), Key: "b"},
		{Kind: api.UDrop, P: read(t, "$.b[0]")},
		{Kind: api.USet, P: read(t, "$.b[0]"), V: means(t, "{x: [1]}")},
		{Kind: api.UAdd, P: read(t, "$.b[0].y"), V: list(null())},
		{Kind: api.USet, P: read(t, "$.b"), V: v},
		{Kind: api.UDrop, P: read(t, "$.b")},
	}
	for n, want := range []int{0, 6, 7, 7 + 1 + 3, 11 + 2, 13 + 6 + 4, 23 + 4} {
		checkCost(t, v, l[:n], want, api.OK)
		// An error behind them, whatever stands behind it: nothing else is told.
		for _, bad := range []struct {
			o api.Op
			e api.Errno
		}{{api.Op{}, api.ErrArg}, {api.Op{Kind: api.UDrop, P: read(t, "$.z")}, api.ErrNone}, {api.Op{Kind: api.UDrop, P: read(t, "$[0]")}, api.ErrKind}, {api.Op{Kind: api.USet, V: nested(20, null())}, api.ErrDeep}} {
			spoiled := append(slices.Clone(l[:n]), bad.o)
			checkCost(t, v, spoiled, 0, bad.e)
			checkCost(t, v, append(spoiled, l[0], api.Op{Kind: 9, P: make([]api.Step, 21)}), 0, bad.e)
		}
	}
	checkCost(t, v, []api.Op{l[1]}, 0, api.ErrNone)
	checkCost(t, noughts(200), []api.Op{{Kind: api.UAdd, P: steps(place(0))}, {Kind: api.UDrop, P: steps(place(0))}}, 0, api.ErrLarge)
}

// TestCostHasNoBoundOfPairs: it is of one value, which may have as many nodes as a good one has.
func TestCostHasNoBoundOfPairs(t *testing.T) {
	// 1 + 9 * 201 + 190 nodes.
	most := list(append(times(9, noughts(200)).L, noughts(189))...)
	checkCost(t, most, nil, 0, api.OK)
	checkCost(t, most, []api.Op{{Kind: api.USet, V: most}}, 4000, api.OK)
	checkCost(t, most, []api.Op{{Kind: api.UDrop, P: steps(place(3))}}, 201, api.OK)
	named := table(entry("a", list(times(9, noughts(199)).L...)))
	checkCost(t, named, slices.Repeat([]api.Op{{Kind: api.UName, P: steps(key("a")), Key: "a"}}, 100), 100*2*1801, api.OK)
}

func TestCostOfMadeUpdates(t *testing.T) {
	m := newMaker(172)
	good := 0
	for i := range 3000 {
		v := m.value(2 + i%3)
		var l []api.Op
		for here := v; len(l) < i%7; {
			o := m.update(here)
			next, e := upd.Apply(here, o)
			if e != api.OK && m.IntN(9) > 0 {
				continue
			}
			l = append(l, o)
			if e == api.OK {
				here = next
			}
		}
		want, e := modelCost(v, l)
		if e == api.OK && len(l) > 1 {
			good++
		}
		checkCost(t, v, l, want, e)
	}
	if good < 500 {
		t.Errorf("%d lists of updates were done only", good)
	}
}

// P1: each call answers, whatever it is given.

func TestEndless(t *testing.T) {
	elements := make([]api.Value, 3)
	elements[0] = list(elements...)
	fields := []api.Entry{entry("a", null())}
	fields[0].V = table(fields...)
	for _, endless := range []api.Value{elements[0], fields[0].V, nested(200000, null())} {
		for _, v := range []api.Value{null(), list(null()), endless, {Kind: 9}, noughts(200)} {
			if e := val.Check(v); e == api.OK {
				checkRefused(t, v, endless, api.ErrDeep)
			}
			checkRefused(t, endless, v, api.ErrDeep)
		}
		for kind := range 6 {
			o := api.Op{Kind: kind, P: steps(place(0)), V: endless, Key: "b"}
			if n, e := diff.Cost(endless, []api.Op{o}); n != 0 || e != api.ErrDeep {
				t.Errorf("updates of what has no end cost %d and %d", n, e)
			}
		}
		v := table(entry("a", noughts(2)))
		for _, c := range []struct {
			kind, want int
			e          api.Errno
		}{{api.USet, 0, api.ErrDeep}, {api.UAdd, 0, api.ErrDeep}, {api.UDrop, 3, api.OK}, {api.UName, 6, api.OK}} {
			// What an update does not need is not looked at.
			o := api.Op{Kind: c.kind, P: steps(key("a")), V: endless, Key: "b"}
			if n, e := diff.Cost(v, []api.Op{o}); n != c.want || e != c.e {
				t.Errorf("an update of Kind %d with what has no end costs %d and %d", c.kind, n, e)
			}
		}
	}
}

// TestLargest values that may be held against each other. (Who asks the same over and over at each depth does not come to an end of them.)
func TestLargest(t *testing.T) {
	for lists := range 18 {
		// As many nodes as there may be, as deep and as wide as there may be, and nearly all the same.
		width := (99 - lists) / 2
		long := func(last int64) api.Value {
			return nested(lists, list(append(times(width-1, list(whole(1))).L, list(whole(last)))...))
		}
		checkFar(t, long(2), long(3), 2)
		ladder := func(last int64) api.Value {
			v := list(whole(last))
			for range lists {
				v = list(append(times((97-lists)/(lists+1), whole(0)).L, v)...)
			}
			return v
		}
		checkFar(t, ladder(2), ladder(3), 2)
	}
}

// P2: nothing that is handed in is changed or kept, and answers are new memory.

// near pair of values, as roomy copies.
func (m maker) near(i int) (a, b api.Value) {
	for {
		a = m.value(2 + i%4)
		b = m.changed(a)
		if modelErr(a, b) == api.OK {
			return roomy(a), roomy(b)
		}
	}
}

func TestNothingIsChanged(t *testing.T) {
	m := newMaker(2)
	for i := range 3000 {
		a, b := m.near(i)
		l, _ := diff.Diff(a, b)
		l = roomyOps(l)
		was, other, told := roomOf(a), roomOf(b), roomOfOps(l)
		diff.Far(a, b)
		diff.Diff(a, b)
		diff.Cost(a, l)
		if !same(roomOf(a), was) || !same(roomOf(b), other) || !sameOps(roomOfOps(l), told) {
			t.Fatalf("what was handed in was changed: %s and %s", brief(was), brief(other))
		}
	}
}

func TestAnswersAreNewMemory(t *testing.T) {
	m := newMaker(3)
	for i := range 3000 {
		a, b := m.near(i)
		was, other := roomOf(a), roomOf(b)
		l, _ := diff.Diff(a, b)
		again, _ := diff.Diff(a, b)
		want := bareOps(l)
		checkUpdates(t, l)
		if !same(roomOf(a), was) || !same(roomOf(b), other) || !sameOps(again, want) {
			t.Fatalf("%s shares memory with what was handed in, or with another answer", brief(want))
		}
		scribble(&a)
		scribble(&b)
		if !sameOps(again, want) {
			t.Fatalf("%s hangs on what was handed in", brief(want))
		}
	}
}

// TestPartsShareNothing, though they do where they are handed in.
func TestPartsShareNothing(t *testing.T) {
	part := list(whole(1), table(entry("x", list(null()))))
	for _, b := range []api.Value{list(part, part, part), table(entry("a", part), entry("b", part), entry("c", list(part, part)))} {
		for _, a := range []api.Value{null(), list(), table(), list(null(), part), table(entry("b", whole(1)), entry("c", list(null())))} {
			checkFar(t, a, b, modelFar(a, b))
			l, _ := diff.Diff(a, b)
			checkUpdates(t, l)
		}
	}
}

// checkUpdates, and their parts: can each one be changed alone? They are, one by one.
func checkUpdates(t *testing.T, l []api.Op) {
	t.Helper()
	want := bareOps(l)
	for k := range l {
		if !sameOps(l[k:], want[k:]) {
			t.Fatalf("updates %s share memory", brief(want))
		}
		checkParts(t, l[k].V)
		scribbleOp(&l[k])
	}
}

// checkParts of a value, and theirs: can each one be changed alone?
func checkParts(t *testing.T, v api.Value) {
	t.Helper()
	parts := func(v api.Value) []api.Value {
		l := slices.Clone(v.L)
		for _, e := range v.E {
			l = append(l, e.V)
		}
		return l
	}
	was := bare(v)
	l, want := parts(v), parts(was)
	for i := range l {
		if !same(l[i], want[i]) {
			t.Fatalf("parts of %s share memory", brief(was))
		}
		checkParts(t, l[i])
		scribble(&l[i])
	}
}
