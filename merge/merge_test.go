package merge_test

import (
	"fmt"
	"slices"
	"strings"
	"testing"

	"typecase/api"
	"typecase/mean"
	"typecase/merge"
	"typecase/path"
	"typecase/upd"
	"typecase/val"
)

// means: the value of a document.
func means(t *testing.T, s string) api.Value {
	t.Helper()
	v, at, e := mean.Mean(s)
	if e != api.OK {
		t.Fatalf("%q is wrong at %d: %d", s, at, e)
	}
	return v
}

// read paths that stand one behind the other, with blanks between.
func read(t *testing.T, s string) [][]api.Step {
	t.Helper()
	var l [][]api.Step
	for _, told := range strings.Fields(s) {
		p, e := path.Read(told)
		if e != api.OK {
			t.Fatalf("%q is no path: %d", told, e)
		}
		l = append(l, p)
	}
	return l
}

func brief(x any) string { return fmt.Sprintf("%.400s", fmt.Sprint(x)) }

// result of a merge.
type result struct {
	v       api.Value
	clashes [][]api.Step
	e       api.Errno
}

func merged(base, a, b api.Value) result {
	v, l, e := merge.Merge(base, a, b)
	return result{v, l, e}
}

func made(v api.Value) result { return result{v: v} }

func refused(e api.Errno) result { return result{e: e} }

func clash(l [][]api.Step) result { return result{clashes: l, e: api.ErrClash} }

func (r result) is(other result) bool {
	return same(r.v, other.v) && samePaths(r.clashes, other.clashes) && r.e == other.e
}

// checkOne: is that what is made of the three, and does the model say so?
func checkOne(t *testing.T, base, a, b api.Value, want result) {
	t.Helper()
	if r := merged(base, a, b); !r.is(want) {
		t.Errorf("Merge(%s, %s, %s) is %s, not %s", brief(base), brief(a), brief(b), brief(r), brief(want))
	}
	v, l, e := modelMerge(base, a, b)
	if r := (result{v, l, e}); !r.is(want) {
		t.Errorf("the model says %s of %s, %s, %s, not %s", brief(r), brief(base), brief(a), brief(b), brief(want))
	}
}

// checkMerge: is it that, whoever of the two is named first?
func checkMerge(t *testing.T, base, a, b api.Value, want result) {
	t.Helper()
	checkOne(t, base, a, b, want)
	checkOne(t, base, b, a, want)
}

// trial of a merge: three documents, what is made of them, or the paths at which they clash.
type trial struct{ base, a, b, want, clashes string }

func checkTrials(t *testing.T, l []trial) {
	t.Helper()
	for _, c := range l {
		want := clash(read(t, c.clashes))
		if c.clashes == "" {
			want = made(means(t, c.want))
		}
		checkMerge(t, means(t, c.base), means(t, c.a), means(t, c.b), want)
	}
}

// P180: what is merged, and what clashes.

func TestOneOfTheThree(t *testing.T) {
	values := append(leaves(), list(null()), at("a", null()), at("a", whole(1)), list(at("a", null())), means(t, `{a: {b: [1, 2]}}`))
	for _, v := range values {
		checkMerge(t, v, v, v, made(v))
		for _, w := range values {
			// Who changes nothing takes what the other one makes; and who make the same have it, wherever they began.
			checkMerge(t, v, v, w, made(w))
			checkMerge(t, v, w, w, made(w))
		}
	}
}

func TestLeavesClash(t *testing.T) {
	l := leaves()
	for i, base := range l {
		for k, a := range l {
			for n, b := range l {
				if i == k || i == n || k == n {
					continue
				}
				checkOne(t, base, a, b, clash(read(t, "$")))
				checkOne(t, at("x", base), at("x", a), at("x", b), clash(read(t, "$.x")))
				checkOne(t, list(base), list(a), list(b), clash(read(t, "$")))
			}
		}
	}
}

func TestTables(t *testing.T) {
	checkTrials(t, []trial{
		{base: `{}`, a: `{a: 1}`, b: `{b: 2}`, want: `{a: 1, b: 2}`},
		{base: `{m: 0}`, a: `{m: 0, z: 1}`, b: `{a: 2, m: 0}`, want: `{a: 2, m: 0, z: 1}`},
		{base: `{a: 1, b: 2}`, a: `{b: 2}`, b: `{a: 1}`, want: `{}`},
		{base: `{a: 1, b: 2}`, a: `{b: 2}`, b: `{a: 1, b: 3}`, want: `{b: 3}`},
		{base: `{a: 1, b: 2}`, a: `{b: 2}`, b: `{a: 1, b: 2, c: 3}`, want: `{b: 2, c: 3}`},
		{base: `{a: 1}`, a: `{}`, b: `{a: 1, b: 1}`, want: `{b: 1}`},
		{base: `{a: 1, b: 2, c: 3}`, a: `{a: 9, b: 2, c: 3}`, b: `{a: 1, b: 2, c: 8}`, want: `{a: 9, b: 2, c: 8}`},
		// Who both do the same, at a key, are one there.
		{base: `{a: 1}`, a: `{b: 1}`, b: `{c: 1}`, want: `{b: 1, c: 1}`},
		{base: `{a: 1}`, a: `{a: 2, b: 3}`, b: `{a: 2, c: 4}`, want: `{a: 2, b: 3, c: 4}`},
		{base: `{}`, a: `{a: 1, b: 3}`, b: `{a: 1, c: 4}`, want: `{a: 1, b: 3, c: 4}`},
		// Tables in tables.
		{base: `{a: {b: 1, c: 2}}`, a: `{a: {b: 9, c: 2}}`, b: `{a: {b: 1, c: 8}}`, want: `{a: {b: 9, c: 8}}`},
		{base: `{a: {b: {c: {}}}}`, a: `{a: {b: {c: {x: 1}}}}`, b: `{a: {b: {c: {y: 2}}}}`, want: `{a: {b: {c: {x: 1, y: 2}}}}`},
		{base: `{a: {b: 1, c: 2}}`, a: `{a: {c: 2}}`, b: `{a: {b: 1}}`, want: `{a: {}}`},
		{base: `{a: {b: 1}, c: {d: 2}}`, a: `{c: {d: 2}}`, b: `{a: {b: 1}}`, want: `{}`},
		{base: `{a: {b: 1}, c: {d: 2}}`, a: `{a: 7, c: {d: 2}}`, b: `{a: {b: 1}, c: [7]}`, want: `{a: 7, c: [7]}`},
		{base: `{a: 1}`, a: `{a: {}}`, b: `{a: {}}`, want: `{a: {}}`},
		// A list is changed as one thing.
		{base: `{a: [1], b: [2]}`, a: `{a: [1, 1], b: [2]}`, b: `{a: [1], b: [2, 2]}`, want: `{a: [1, 1], b: [2, 2]}`},
	})
}

func TestClashes(t *testing.T) {
	checkTrials(t, []trial{
		{base: `1`, a: `2`, b: `3`, clashes: `$`},
		{base: `[1, 2]`, a: `[1]`, b: `[2]`, clashes: `$`},
		{base: `[{}]`, a: `[{a: 1}]`, b: `[{b: 1}]`, clashes: `$`},
		{base: `[[], []]`, a: `[[1], []]`, b: `[[], [1]]`, clashes: `$`},
		{base: `{a: [{}]}`, a: `{a: [{a: 1}]}`, b: `{a: [{b: 1}]}`, clashes: `$.a`},
		// One of the three is no table.
		{base: `1`, a: `{a: 1}`, b: `{b: 1}`, clashes: `$`},
		{base: `{}`, a: `[1]`, b: `{b: 1}`, clashes: `$`},
		{base: `{a: {}}`, a: `{a: null}`, b: `{a: {b: 1}}`, clashes: `$.a`},
		{base: `{a: []}`, a: `{a: {c: 1}}`, b: `{a: {b: 1}}`, clashes: `$.a`},
		// Of one there is none.
		{base: `{}`, a: `{a: 1}`, b: `{a: 2}`, clashes: `$.a`},
		{base: `{a: 1}`, a: `{}`, b: `{a: 2}`, clashes: `$.a`},
		{base: `{}`, a: `{a: {}}`, b: `{a: {b: 1}}`, clashes: `$.a`},
		{base: `{}`, a: `{a: {b: 1}}`, b: `{a: {c: 1}}`, clashes: `$.a`},
		{base: `{a: {b: 1}}`, a: `{}`, b: `{a: {b: 2}}`, clashes: `$.a`},
		{base: `{a: {b: 1}}`, a: `{a: {}}`, b: `{a: {b: 2}}`, clashes: `$.a.b`},
		// There is null, or there is nothing.
		{base: `{}`, a: `{a: null}`, b: `{a: 1}`, clashes: `$.a`},
		{base: `{a: null}`, a: `{}`, b: `{a: 1}`, clashes: `$.a`},
		// What does not clash beside it is not told.
		{base: `{a: {b: 1}, z: 1}`, a: `{a: {b: 2}, z: 3}`, b: `{a: {b: 3}, z: 2}`, clashes: `$.a.b $.z`},
		{base: `{a: 1, b: 1, c: 1}`, a: `{a: 2, b: 2, c: 1, d: 7}`, b: `{a: 1, b: 3, c: 4}`, clashes: `$.b`},
	})
}

// TestOneKey of a table: there is none, or one of some values, in all ways.
func TestOneKey(t *testing.T) {
	checkAll(t, smallTables(1, null(), whole(1), list(), at("c", null())))
}

func TestAllSmallTables(t *testing.T) {
	checkAll(t, append(smallTables(2, whole(1)), null(), list(table())))
}

// checkAll ways to take three of them. Not one is left untold of: it is made, or it clashes.
func checkAll(t *testing.T, l []api.Value) {
	t.Helper()
	count := map[api.Errno]int{}
	for _, base := range l {
		for _, a := range l {
			for _, b := range l {
				v, clashes, e := modelMerge(base, a, b)
				checkOne(t, base, a, b, result{v, clashes, e})
				count[e]++
			}
		}
	}
	if count[api.OK] == 0 || count[api.ErrClash] == 0 || count[api.OK]+count[api.ErrClash] != len(l)*len(l)*len(l) {
		t.Errorf("of %d values there is %v", len(l), count)
	}
}

func TestMadeValues(t *testing.T) {
	m := newMaker(180)
	tables, clashes := 0, 0
	for i := range 8000 {
		base := m.value(2 + i%4)
		a, b := m.changed(base, 2+i%20), m.changed(base, 2+i%20)
		v, l, e := modelMerge(base, a, b)
		checkMerge(t, base, a, b, result{v, l, e})
		switch {
		case len(l) > 1:
			clashes++
		case e == api.OK && !same(v, a) && !same(v, b):
			tables++
		}
		checkClashes(t, base, a, b, l)
	}
	if tables < 500 || clashes < 500 {
		t.Errorf("%d were merged of both, %d clashed at many paths", tables, clashes)
	}
}

// checkClashes: at each path no two are the same, and there are not three tables.
func checkClashes(t *testing.T, base, a, b api.Value, l [][]api.Step) {
	t.Helper()
	for _, p := range l {
		var there []result
		tables := 0
		for _, v := range []api.Value{base, a, b} {
			x, e := path.Get(v, p)
			there = append(there, result{v: x, e: e})
			if x.Kind == api.VTable {
				tables++
			}
		}
		if tables == 3 || there[0].is(there[1]) || there[0].is(there[2]) || there[1].is(there[2]) {
			t.Errorf("at %s there is no clash of %s", brief(p), brief(there))
		}
	}
}

// TestUpdatesApart from each other: both are done, as if one had done them one behind the other.
func TestUpdatesApart(t *testing.T) {
	m := newMaker(181)
	done := 0
	for i := range 8000 {
		base := m.table(2 + i%4)
		o, other := m.update(base), m.update(base)
		a, e := upd.Apply(base, o)
		b, f := upd.Apply(base, other)
		if e != api.OK || f != api.OK || !apart(o, other) {
			continue
		}
		want, _, e := upd.All(base, []api.Op{o, other})
		if e != api.OK {
			t.Fatalf("%s and %s are not apart in %s: %d", brief(o), brief(other), brief(base), e)
		}
		checkMerge(t, base, a, b, made(want))
		done++
	}
	if done < 1500 {
		t.Errorf("%d pairs were apart only", done)
	}
}

// P181: the order of the paths.

func TestOrderOfPaths(t *testing.T) {
	// At each key stands one that differs, or a table of such ones.
	three := func(within ...string) (l [3]api.Value) {
		for i := range l {
			n := whole(int64(i))
			l[i] = table()
			for _, k := range keys() {
				v := n
				if slices.Contains(within, k) {
					v = table(entry("", n), entry("z", n))
				}
				l[i].E = append(l[i].E, entry(k, v))
			}
		}
		return l
	}
	step := func(k string) api.Step { return api.Step{Key: k, I: -1} }
	var all, more [][]api.Step
	for _, k := range keys() {
		all = append(all, []api.Step{step(k)})
		if k != "a" && k != "aa" {
			more = append(more, []api.Step{step(k)})
			continue
		}
		more = append(more, []api.Step{step(k), step("")}, []api.Step{step(k), step("z")})
	}
	l := three()
	checkMerge(t, l[0], l[1], l[2], clash(all))
	// The paths through one key stand together, ahead of those through the next one.
	l = three("a", "aa")
	checkMerge(t, l[0], l[1], l[2], clash(more))
	// It is the same whoever has a key.
	checkTrials(t, []trial{
		{base: `{a: 1, d: 1}`, a: `{b: 2, d: 2, e: 2}`, b: `{a: 3, b: 3, c: 3, e: 3}`, clashes: `$.a $.b $.d $.e`},
		{base: `{z: 1}`, a: `{a: 1, y: {}, z: 2}`, b: `{a: 2, y: {a: 1}}`, clashes: `$.a $.y $.z`},
	})
}

// P181: what is refused.

func TestRefused(t *testing.T) {
	for _, bad := range badValues() {
		e := val.Check(bad)
		if e == api.OK {
			t.Errorf("%s is good", brief(bad))
		}
		for _, v := range []api.Value{null(), whole(1), entries("k", 200, null()), at("a", whole(1))} {
			for _, w := range []api.Value{null(), whole(2), at("a", whole(2)), noughts(200)} {
				checkOne(t, bad, v, w, refused(e))
				checkOne(t, v, bad, w, refused(e))
				checkOne(t, v, w, bad, refused(e))
			}
		}
		// The first one's error is told, also where they are the same.
		checkOne(t, bad, bad, bad, refused(e))
		for _, other := range badValues() {
			f := val.Check(other)
			checkOne(t, bad, other, null(), refused(e))
			checkOne(t, bad, null(), other, refused(e))
			checkOne(t, null(), bad, other, refused(e))
			for _, third := range badValues() {
				checkOne(t, bad, other, third, refused(e))
				checkOne(t, bad, third, other, refused(e))
				checkOne(t, whole(1), other, third, refused(f))
			}
		}
	}
}

func TestBoundOfEntries(t *testing.T) {
	const most = 200
	for _, n := range [][2]int{{1, 1}, {1, 150}, {100, 100}, {99, 101}, {200, 1}, {200, 200}} {
		a, b := entries("a", n[0], null()), entries("b", n[1], null())
		want := made(both(a, b))
		if n[0]+n[1] > most {
			want = refused(api.ErrLarge)
		}
		checkMerge(t, table(), a, b, want)
		if want.e == api.OK {
			want = made(nestedAt("x", 18, want.v))
		}
		checkMerge(t, nestedAt("x", 18, table()), nestedAt("x", 18, a), nestedAt("x", 18, b), want)
	}
	base := entries("m", 198, whole(1))
	checkMerge(t, base, both(base, at("a", null())), both(base, at("z", null())), made(both(base, table(entry("a", null()), entry("z", null())))))
	checkMerge(t, base, both(base, entries("a", 2, null())), both(base, at("z", null())), refused(api.ErrLarge))
	// What is gone does not count.
	checkMerge(t, base, both(table(base.E[2:]...), entries("a", 4, null())), base, made(both(table(base.E[2:]...), entries("a", 4, null()))))
	checkMerge(t, base, table(base.E[2:]...), both(base, entries("z", 2, null())), made(both(table(base.E[2:]...), entries("z", 2, null()))))
	checkMerge(t, base, both(table(base.E[2:]...), entries("a", 2, null())), both(base, entries("z", 2, null())), made(both(table(base.E[2:]...), both(entries("a", 2, null()), entries("z", 2, null())))))
	checkMerge(t, base, both(table(base.E[2:]...), entries("a", 3, null())), both(base, entries("z", 2, null())), refused(api.ErrLarge))
}

// sized: a table of so many nodes, itself not counted, of lists as long as may be.
func sized(start string, nodes int) api.Value {
	v := table()
	for nodes > 0 {
		n := min(nodes, 201)
		v.E = append(v.E, entry(fmt.Sprintf("%s%03d", start, len(v.E)), noughts(n-1)))
		nodes -= n
	}
	return v
}

func TestBoundOfNodes(t *testing.T) {
	for _, n := range [][2]int{{1, 1998}, {1000, 999}, {1500, 499}} {
		a, b := sized("a", n[0]), sized("b", n[1])
		checkMerge(t, table(), a, b, made(both(a, b)))
		checkMerge(t, table(), sized("a", n[0]+1), b, refused(api.ErrLarge))
		if n[1] < 1998 {
			checkMerge(t, table(), a, sized("b", n[1]+1), refused(api.ErrLarge))
		}
	}
	checkMerge(t, table(), sized("a", 1999), sized("b", 1999), refused(api.ErrLarge))
	checkMerge(t, sized("a", 1999), sized("a", 1999), sized("b", 1999), made(sized("b", 1999)))
	checkMerge(t, at("x", table()), at("x", sized("a", 1000)), at("x", sized("b", 999)), refused(api.ErrLarge))
	checkMerge(t, at("x", table()), at("x", sized("a", 999)), at("x", sized("b", 999)), made(at("x", both(sized("a", 999), sized("b", 999)))))
}

// TestClashIsToldFirst, whatever else is wrong with what would be merged.
func TestClashIsToldFirst(t *testing.T) {
	a, b := entries("a", 150, null()), entries("b", 150, null())
	checkMerge(t, table(), a, b, refused(api.ErrLarge))
	checkMerge(t, table(), both(a, at("", whole(1))), both(b, at("", whole(2))), clash(read(t, `$.""`)))
	checkMerge(t, at("z", null()), both(a, at("z", whole(1))), both(b, at("z", whole(2))), clash(read(t, `$.z`)))
	a, b = sized("a", 1500), sized("b", 1500)
	checkMerge(t, table(), a, b, refused(api.ErrLarge))
	checkMerge(t, table(), both(a, at("m", whole(1))), both(b, at("m", whole(2))), clash(read(t, `$.m`)))
}

func TestDeepest(t *testing.T) {
	k := strings.Repeat("k", 100)
	for deep := range 20 {
		at := "$" + strings.Repeat("."+k, deep)
		checkMerge(t, nestedAt(k, deep, whole(1)), nestedAt(k, deep, whole(2)), nestedAt(k, deep, whole(3)), clash(read(t, at)))
		checkMerge(t, nestedAt(k, deep, whole(1)), nestedAt(k, deep, whole(1)), nestedAt(k, deep, whole(3)), made(nestedAt(k, deep, whole(3))))
		if deep < 19 {
			x, y := entry("x", null()), entry("y", whole(1))
			checkMerge(t, nestedAt(k, deep, table()), nestedAt(k, deep, table(x)), nestedAt(k, deep, table(y)), made(nestedAt(k, deep, table(x, y))))
			checkMerge(t, nestedAt(k, deep, table(x, y)), nestedAt(k, deep, table(x)), nestedAt(k, deep, table(y)), made(nestedAt(k, deep, table())))
		}
	}
}

// TestLargest values: as many entries as there may be, all of which clash, or none.
func TestLargest(t *testing.T) {
	full := func(n int64) api.Value { return entries("t", 9, entries("k", 200, whole(n))) }
	v, l, e := modelMerge(full(1), full(2), full(3))
	if len(l) != 1800 {
		t.Fatalf("the model has %d clashes", len(l))
	}
	checkMerge(t, full(1), full(2), full(3), result{v, l, e})
	checkMerge(t, full(1), full(2), full(2), made(full(2)))
	long := entries("k", 200, text(strings.Repeat("x", 4000)))
	checkMerge(t, table(), nestedAt("a", 18, long), at("b", long), made(table(nestedAt("a", 18, long).E[0], entry("b", long))))
}

// P1: it answers, whatever it is given.

func TestEndless(t *testing.T) {
	elements := make([]api.Value, 3)
	elements[0] = list(elements...)
	fields := []api.Entry{entry("a", null())}
	fields[0].V = table(fields...)
	for _, endless := range []api.Value{elements[0], fields[0].V, nested(200000, null()), nestedAt("a", 200000, null())} {
		for _, v := range []api.Value{null(), at("a", null()), noughts(200), endless} {
			if r := merged(endless, v, v); !r.is(refused(api.ErrDeep)) {
				t.Errorf("of what has no end there is %s", brief(r))
			}
			if r := merged(null(), endless, v); !r.is(refused(api.ErrDeep)) {
				t.Errorf("of what has no end there is %s", brief(r))
			}
			if r := merged(null(), at("a", null()), endless); !r.is(refused(api.ErrDeep)) {
				t.Errorf("of what has no end there is %s", brief(r))
			}
		}
	}
}

// P2: nothing that is handed in is changed or kept, and answers are new memory.

// three values that are near each other, with room behind their lists.
func (m maker) three(i int) [3]api.Value {
	base := m.value(2 + i%4)
	return [3]api.Value{roomy(base), roomy(m.changed(base, 9)), roomy(m.changed(base, 9))}
}

// rooms of three values.
func rooms(l [3]api.Value) [3]api.Value {
	for i := range l {
		l[i] = roomOf(l[i])
	}
	return l
}

func sameThree(l, k [3]api.Value) bool { return slices.EqualFunc(l[:], k[:], same) }

func TestNothingIsChanged(t *testing.T) {
	m := newMaker(2)
	for i := range 2000 {
		l := m.three(i)
		was := rooms(l)
		merge.Merge(l[0], l[1], l[2])
		if !sameThree(rooms(l), was) {
			t.Fatalf("what was handed in was changed: %s", brief(was))
		}
	}
}

func TestAnswersAreNewMemory(t *testing.T) {
	m := newMaker(3)
	for i := range 2000 {
		l := m.three(i)
		checkNewMemory(t, l)
	}
}

// TestPartsShareNothing, though they do where they are handed in.
func TestPartsShareNothing(t *testing.T) {
	part := roomy(list(whole(1), at("x", list(null()))))
	tables := roomy(table(entry("x", list(null())), entry("y", at("z", null()))))
	one := table(entry("a", part), entry("b", part), entry("c", list(part, part)))
	for _, l := range [][3]api.Value{
		{part, part, part}, {null(), one, one}, {one, one, null()}, {table(), table(entry("a", part), entry("b", part)), table(entry("b", part), entry("c", part))},
		{table(), at("a", tables), at("b", tables)}, {at("a", tables), at("a", at("x", tables)), at("a", table(tables.E[0]))},
		{at("a", table()), table(entry("a", tables), entry("b", tables)), table(entry("a", table(tables.E[:1]...)), entry("c", tables))},
	} {
		v, clashes, e := modelMerge(l[0], l[1], l[2])
		checkMerge(t, l[0], l[1], l[2], result{v, clashes, e})
		checkParts(t, merged(l[0], l[1], l[2]).v)
	}
}

// checkNewMemory: can an answer be changed, and what was handed in, and nothing else shows it?
func checkNewMemory(t *testing.T, l [3]api.Value) {
	t.Helper()
	was := rooms(l)
	r, again := merged(l[0], l[1], l[2]), merged(l[0], l[1], l[2])
	want := result{bare(r.v), barePaths(r.clashes), r.e}
	checkParts(t, r.v)
	scribble(&r.v)
	checkPaths(t, r.clashes)
	if !sameThree(rooms(l), was) || !again.is(want) {
		t.Fatalf("%s shares memory with what was handed in, or with another answer", brief(want))
	}
	for i := range l {
		scribble(&l[i])
	}
	if !again.is(want) {
		t.Fatalf("%s hangs on what was handed in", brief(want))
	}
}

// checkPaths: can each one be changed alone? They are, one by one.
func checkPaths(t *testing.T, l [][]api.Step) {
	t.Helper()
	want := barePaths(l)
	for i, p := range l {
		if !samePaths(l[i:], want[i:]) {
			t.Fatalf("paths %s share memory", brief(want))
		}
		scribblePath(p)
	}
}

// checkParts of a value, and theirs: can each one be changed alone?
func checkParts(t *testing.T, v api.Value) {
	t.Helper()
	parts := func(v api.Value) []api.Value {
		l := slices.Clone(v.L)
		for _, e := range v.E {
			l = append(l, e.V)
		}
		return l
	}
	was := bare(v)
	l, want := parts(v), parts(was)
	for i := range l {
		if !same(l[i], want[i]) {
			t.Fatalf("parts of %s share memory", brief(was))
		}
		checkParts(t, l[i])
		scribble(&l[i])
	}
}
