package val_test

import (
	"bytes"
	"fmt"
	"math"
	"runtime/debug"
	"slices"
	"strings"
	"testing"

	"typecase/api"
	"typecase/val"
)

// P90: how deep a value is, and of how many.

func TestDepthAndNodes(t *testing.T) {
	for _, c := range []struct {
		v            api.Value
		depth, nodes int
	}{
		{null(), 1, 1}, {boolean(1), 1, 1}, {whole(7), 1, 1}, {fraction(1), 1, 1}, {text("abc"), 1, 1}, {list(), 1, 1}, {table(), 1, 1},
		{list(null()), 2, 2}, {list(null(), null(), null()), 2, 4}, {list(list()), 2, 2}, {list(list(null()), null()), 3, 4}, {list(null(), list(null())), 3, 4},
		{table(entry("a", null())), 2, 2}, {table(entry("a", list(null(), null())), entry("b", null())), 3, 5}, {table(entry("a", null()), entry("b", table(entry("a", table())))), 3, 4},
		{nested(19, null()), 20, 20}, {nested(20, null()), 21, 21}, {nested(500, null()), 501, 501}, {noughts(200), 2, 201}, {noughts(100000), 2, 100001}, {linedUp(2000), 3, 2000},
		// What is not good has parts, too: its elements, and its entries' values.
		{api.Value{Kind: -3}, 1, 1}, {api.Value{L: []api.Value{null()}}, 2, 2}, {api.Value{Kind: api.VText, E: []api.Entry{entry("a", list(null()))}}, 3, 3},
		{api.Value{Kind: api.VList, L: []api.Value{null(), null()}, E: []api.Entry{entry("a", list(null()))}}, 3, 5},
		{api.Value{Kind: 99, L: []api.Value{list(list())}, E: []api.Entry{entry("", null()), entry("", null())}}, 3, 5},
		{table(entry("a", null()), entry("a", null())), 2, 3},
	} {
		if d, n := val.Depth(c.v), val.Nodes(c.v); d != c.depth || n != c.nodes {
			t.Errorf("of %.200s: depth %d, nodes %d, not %d, %d", fmt.Sprint(c.v), d, n, c.depth, c.nodes)
		}
	}
}

func TestDepthAndNodesOfMadeValues(t *testing.T) {
	m := newMaker(90)
	for i := range 5000 {
		v := m.good(i % 8)
		if i%2 == 0 {
			m.spoil(&v)
		}
		depth, nodes := 0, 0
		for _, x := range modelWalk(v) {
			nodes++
			depth = max(depth, x.above+1)
		}
		if d, n := val.Depth(v), val.Nodes(v); d != depth || n != nodes {
			t.Fatalf("of %.500s: depth %d, nodes %d, not %d, %d", fmt.Sprint(v), d, n, depth, nodes)
		}
	}
}

// P91: what is a good value.

func checkCheck(t *testing.T, v api.Value, want api.Errno) {
	t.Helper()
	if e := val.Check(v); e != want {
		t.Errorf("Check(%.300s) is %d, not %d", fmt.Sprint(v), e, want)
	}
	if e := modelCheck(v); e != want {
		t.Errorf("the model says %d of %.300s, not %d", e, fmt.Sprint(v), want)
	}
}

func TestCheckTakesGoodValues(t *testing.T) {
	for _, v := range []api.Value{
		null(), boolean(0), boolean(1), list(), table(), text(""), text("\x00"), text("é€\U0010ffff"), list(null(), list(), table(entry("a", null()))), table(entry("", null()), entry("\x00", null()), entry("a", null()), entry("aa", null()), entry("b", null()), entry("é", null())),
		{L: []api.Value{}, E: []api.Entry{}}, {Kind: api.VText, L: []api.Value{}, E: []api.Entry{}}, {Kind: api.VList, E: []api.Entry{}}, {Kind: api.VTable, L: []api.Value{}},
	} {
		checkCheck(t, v, api.OK)
	}
	for _, n := range wholes() {
		checkCheck(t, whole(n), api.OK)
	}
	for _, f := range fractions() {
		checkCheck(t, fraction(f), api.OK)
	}
	m := newMaker(91)
	for i := range 2000 {
		checkCheck(t, m.good(i%10), api.OK)
	}
}

// TestCheckEachField of each Kind: only one of them is named.
func TestCheckEachField(t *testing.T) {
	named := map[int]string{api.VBool: "N", api.VInt: "N", api.VFloat: "F", api.VText: "S", api.VList: "L", api.VTable: "E"}
	fields := map[string]api.Value{"N": {N: 1}, "F": {F: 1}, "S": {S: "a"}, "L": {L: make([]api.Value, 1)}, "E": {E: make([]api.Entry, 1)}}
	for kind := -2; kind < 10; kind++ {
		for field, v := range fields {
			v.Kind = kind
			want := api.ErrKind
			if kind >= 0 && named[kind] == field {
				want = api.OK
			}
			checkCheck(t, v, want)
			checkCheck(t, list(v), want)
		}
	}
	for _, kind := range []int{-1, 7, 8, math.MaxInt, math.MinInt, 256, 1 << 32} {
		checkCheck(t, api.Value{Kind: kind}, api.ErrKind)
	}
	for _, n := range []int64{-1, 2, 256, 257, 1 << 32, math.MaxInt64, math.MinInt64} {
		checkCheck(t, boolean(n), api.ErrKind)
	}
	for _, f := range []uint64{0x7ff0000000000001, 0x7ff8000000000000, 0x7ff8000000000002, 0x7fffffffffffffff, 0xfff0000000000001, 0xfff8000000000000, 0xfff8000000000001, math.MaxUint64} {
		checkCheck(t, fraction(f), api.ErrKind)
	}
}

func TestCheckBounds(t *testing.T) {
	entries := func(count int) api.Value {
		v := table()
		for i := range count {
			v.E = append(v.E, entry(fmt.Sprintf("%03d", i), null()))
		}
		return v
	}
	for _, c := range []struct {
		v api.Value
		e api.Errno
	}{
		{text(strings.Repeat("a", 4000)), api.OK}, {text(strings.Repeat("a", 4001)), api.ErrLarge}, {text(strings.Repeat("é", 2000)), api.OK}, {text(strings.Repeat("é", 2000) + "a"), api.ErrLarge},
		{noughts(200), api.OK}, {noughts(201), api.ErrLarge}, {noughts(5000), api.ErrLarge}, {entries(200), api.OK}, {entries(201), api.ErrLarge},
		{table(entry(strings.Repeat("k", 100), null())), api.OK}, {table(entry(strings.Repeat("k", 101), null())), api.ErrLarge}, {table(entry(strings.Repeat("é", 50), null())), api.OK}, {table(entry(strings.Repeat("é", 50)+"a", null())), api.ErrLarge},
		{nested(19, null()), api.OK}, {nested(20, null()), api.ErrDeep}, {nested(19, list()), api.OK}, {nested(18, table(entry("a", null()))), api.OK}, {nested(19, table(entry("a", null()))), api.ErrDeep}, {list(nested(18, null()), nested(19, null())), api.ErrDeep}, {nested(100000, null()), api.ErrDeep},
		{linedUp(2000), api.OK}, {linedUp(2001), api.ErrLarge}, {linedUp(2002), api.ErrLarge}, {linedUp(1999), api.OK},
	} {
		checkCheck(t, c.v, c.e)
	}
}

func TestCheckTexts(t *testing.T) {
	for _, s := range []string{"\xff", "a\x80", "\xc3", "\xc0\x80", "\xed\xa0\x80", "\xf4\x90\x80\x80", "é\xe2\x82"} {
		checkCheck(t, text(s), api.ErrText)
		checkCheck(t, table(entry(s, null())), api.ErrText)
		checkCheck(t, list(text("good"), text(s)), api.ErrText)
		checkCheck(t, table(entry("", null()), entry(s, null())), api.ErrText)
	}
}

func TestCheckOrderOfKeys(t *testing.T) {
	for _, l := range [][]string{{"a", "a"}, {"b", "a"}, {"", ""}, {"a", ""}, {"ab", "a"}, {"a", "B"}, {"é", "z"}, {"a", "c", "b"}, {"a", "b", "b"}, {"a", "b", "a"}, {"10", "1"}} {
		v := table()
		for _, key := range l {
			v.E = append(v.E, entry(key, null()))
		}
		checkCheck(t, v, api.ErrOrder)
		checkCheck(t, list(v), api.ErrOrder)
	}
	// Keys are held against those of their own table.
	checkCheck(t, table(entry("b", table(entry("a", null()))), entry("c", table(entry("a", null())))), api.OK)
	checkCheck(t, list(table(entry("b", null())), table(entry("a", null()))), api.OK)
}

// TestCheckTellsTheFirst of several errors: in one value as P91 tells them, else as one comes to the values.
func TestCheckTellsTheFirst(t *testing.T) {
	bad := api.Value{Kind: 9}
	long, strange := strings.Repeat("k", 101), "\xff"
	for _, c := range []struct {
		v api.Value
		e api.Errno
	}{
		{nested(20, bad), api.ErrDeep},
		{nested(20, text(strange)), api.ErrDeep},
		{nested(19, list(bad, null())), api.ErrDeep},
		{nested(19, noughts(201)), api.ErrLarge},
		{api.Value{Kind: api.VInt, S: strings.Repeat("a", 4001)}, api.ErrKind},
		{api.Value{Kind: api.VInt, S: strange}, api.ErrKind},
		{api.Value{L: make([]api.Value, 201)}, api.ErrKind},
		{api.Value{E: make([]api.Entry, 2)}, api.ErrKind},
		{text(strings.Repeat(strange, 4001)), api.ErrLarge},
		{table(make([]api.Entry, 201)...), api.ErrLarge},
		{table(entry(strings.Repeat(strange, 101), null())), api.ErrLarge},
		{table(entry(strange, null()), entry(long, null())), api.ErrText},
		{table(entry(long, null()), entry(strange, null())), api.ErrLarge},
		{table(entry("b", null()), entry("a", null()), entry(strange, null())), api.ErrOrder},
		{table(entry("b", null()), entry("a"+strange, null())), api.ErrText},
		{table(entry("z", null()), entry(long, null())), api.ErrLarge},
		{table(entry("z", bad), entry("a", null())), api.ErrOrder},
		{table(entry("a", null()), entry("b", bad), entry(strange, null())), api.ErrText},
		{table(entry("a", text(strange)), entry("b", bad)), api.ErrText},
		{list(bad, text(strange)), api.ErrKind},
		{list(text(strange), bad), api.ErrText},
		{list(list(list(bad)), text(strange)), api.ErrKind},
		{list(list(null(), text(strange)), bad), api.ErrText},
		{list(nested(19, null()), bad), api.ErrDeep},
		{list(bad, nested(19, null())), api.ErrKind},
		{list(noughts(201), bad), api.ErrLarge},
		{list(linedUp(1998), bad), api.ErrKind},
		{list(linedUp(1999), bad), api.ErrLarge},
		{list(linedUp(1999), nested(20, null())), api.ErrLarge},
		{list(linedUp(1990), nested(30, null())), api.ErrLarge},
		{list(linedUp(1980), nested(30, null())), api.ErrLarge},
		{list(linedUp(1979), nested(30, null())), api.ErrDeep},
	} {
		checkCheck(t, c.v, c.e)
	}
}

func TestCheckSpoiledValues(t *testing.T) {
	m := newMaker(911)
	told := map[api.Errno]int{}
	for i := range 20000 {
		v := m.good(i % 12)
		for range 1 + i%3 {
			m.spoil(&v)
		}
		want := modelCheck(v)
		told[want]++
		if e := val.Check(v); e != want {
			t.Fatalf("Check(%.1000s) is %d, not %d", fmt.Sprint(v), e, want)
		}
	}
	for _, e := range []api.Errno{api.OK, api.ErrLarge, api.ErrDeep, api.ErrKind, api.ErrText, api.ErrOrder} {
		if told[e] < 100 {
			t.Errorf("%d was told %d times only", e, told[e])
		}
	}
}

// P92: how two values stand.

// checkRising: does each of these stand above those ahead of it?
func checkRising(t *testing.T, l []api.Value) {
	t.Helper()
	for i, a := range l {
		for k, b := range l {
			want := 0
			if i != k {
				want = sign(i > k)
			}
			if c := val.Compare(a, b); c != want {
				t.Errorf("Compare(%.100s, %.100s) is %d, not %d", fmt.Sprint(a), fmt.Sprint(b), c, want)
			}
			if c := modelCompare(a, b); c != want {
				t.Errorf("the model says %d of %.100s, %.100s, not %d", c, fmt.Sprint(a), fmt.Sprint(b), want)
			}
		}
	}
}

func TestCompareKinds(t *testing.T) {
	checkRising(t, []api.Value{
		{Kind: math.MinInt}, {Kind: -1}, null(), boolean(0), boolean(1), whole(math.MinInt64), whole(-1), whole(0), whole(1), whole(math.MaxInt64),
		fraction(1<<63 | 2047<<52), fraction(0), fraction(0x7ff8000000000001), text(""), text("a"), list(), list(table()), table(), table(entry("", null())), {Kind: 7}, {Kind: math.MaxInt},
	})
}

func TestCompareFractions(t *testing.T) {
	var rising []api.Value
	for _, f := range []float64{math.Inf(-1), -math.MaxFloat64, -2, -1.5, -1, -0.1, -math.SmallestNonzeroFloat64, math.Copysign(0, -1), 0, math.SmallestNonzeroFloat64, 0.1, 1, 1.5, 2, math.MaxFloat64, math.Inf(1)} {
		rising = append(rising, fraction(math.Float64bits(f)))
	}
	checkRising(t, append(rising, fraction(0x7ff8000000000001)))
	// Of no number, too: sign 1 by falling bits, below sign 0 by rising bits.
	rising = append([]api.Value{fraction(math.MaxUint64), fraction(0xfff8000000000001), fraction(0xfff0000000000001)}, rising...)
	checkRising(t, append(rising, fraction(0x7ff0000000000001), fraction(0x7ff8000000000000), fraction(0x7ff8000000000001), fraction(0x7fffffffffffffff)))
	m := newMaker(92)
	for range 20000 {
		a, b := m.Float64()*2-1, m.Float64()*2-1
		if c := val.Compare(fraction(math.Float64bits(a)), fraction(math.Float64bits(b))); a != b && c != sign(a > b) {
			t.Fatalf("Compare of %v and %v is %d", a, b, c)
		}
	}
}

func TestCompareTexts(t *testing.T) {
	var rising []api.Value
	for _, s := range []string{"", "\x00", "\x00\x00", "\x01", "A", "Z", "a", "a\x00", "a\x01", "aa", "ab", "b", "é", "€", "\U0010ffff", "\xff", "\xff\x00"} {
		rising = append(rising, text(s))
	}
	checkRising(t, rising)
}

func TestCompareParts(t *testing.T) {
	checkRising(t, []api.Value{
		list(), list(null()), list(null(), null()), list(null(), null(), null()), list(null(), whole(1)), list(boolean(0)), list(boolean(1)), list(whole(1), table()), list(whole(2)), list(whole(2), null()), list(list()), list(list(), null()), list(list(null())), list(list(null()), null()), list(list(table())), list(table()),
		table(), table(entry("", table())), table(entry("a", null())), table(entry("a", null()), entry("b", null())), table(entry("a", null()), entry("b", whole(1))), table(entry("a", null()), entry("c", null())), table(entry("a", whole(1))), table(entry("a", list()), entry("b", null())), table(entry("a", list(null()))), table(entry("a", table())), table(entry("aa", null())), table(entry("b", null())), table(entry("b", null()), entry("a", null())),
	})
}

// TestCompareFieldsInOrder: any two are compared, so each field counts of each Kind, behind those ahead of it.
func TestCompareFieldsInOrder(t *testing.T) {
	low := api.Value{Kind: 3, N: 3, F: 3, S: "c", L: []api.Value{null()}, E: []api.Entry{entry("c", whole(3))}}
	fields := []func(v *api.Value, by int){
		func(v *api.Value, by int) { v.Kind += by },
		func(v *api.Value, by int) { v.N += int64(by) },
		func(v *api.Value, by int) { v.F += uint64(by) },
		func(v *api.Value, by int) { v.S = string(rune('c' + by)) },
		func(v *api.Value, by int) { v.L = []api.Value{whole(int64(by))} },
		func(v *api.Value, by int) { v.L = make([]api.Value, 2+by) },
		func(v *api.Value, by int) { v.E = []api.Entry{entry(string(rune('c'+by)), whole(3))} },
		func(v *api.Value, by int) { v.E = []api.Entry{entry("c", whole(int64(by)))} },
		func(v *api.Value, by int) { v.E = make([]api.Entry, 2+by) },
	}
	for i, first := range fields {
		for _, second := range append(fields[i+1:], func(*api.Value, int) {}) {
			for _, by := range []int{-1, 1} {
				a, b := low, low
				second(&a, by)
				first(&a, -1)
				second(&b, -by)
				first(&b, 1)
				if c, back := val.Compare(a, b), val.Compare(b, a); c != -1 || back != 1 {
					t.Errorf("Compare(%v, %v) is %d, and back %d", a, b, c, back)
				}
			}
		}
	}
	if val.Compare(low, low) != 0 || val.Compare(api.Value{L: []api.Value{}, E: []api.Entry{}}, null()) != 0 {
		t.Error("two that are the same are not")
	}
}

func TestCompareMadeValues(t *testing.T) {
	m := newMaker(921)
	for i := range 30000 {
		a := m.good(i % 7)
		b := bare(a)
		switch i % 3 {
		case 0:
			b = m.good(i % 7)
		case 1:
			*m.partOf(&b) = m.good(2)
		}
		if c, want := val.Compare(a, b), bytes.Compare(rising(a), rising(b)); c != want || c != modelCompare(a, b) || val.Compare(b, a) != -want {
			t.Fatalf("Compare(%v, %v) is %d, not %d", a, b, c, want)
		}
		m.spoil(&a)
		m.spoil(&b)
		if c, want := val.Compare(a, b), modelCompare(a, b); c != want || val.Compare(b, a) != -want {
			t.Fatalf("Compare(%.500s, %.500s) is %d, not %d", fmt.Sprint(a), fmt.Sprint(b), c, want)
		}
	}
}

func TestCompareEachShortList(t *testing.T) {
	ones := []api.Value{null(), whole(1), list(), list(null()), table(), table(entry("a", null())), table(entry("a", null()), entry("b", null()))}
	all := slices.Clone(ones)
	for _, a := range ones {
		all = append(all, list(a), table(entry("a", a)), table(entry("b", a)))
		for _, b := range ones {
			all = append(all, list(a, b), table(entry("a", a), entry("b", b)), api.Value{L: []api.Value{a}, E: []api.Entry{entry("a", b)}})
		}
	}
	for _, a := range all {
		for _, b := range all {
			if c, want := val.Compare(a, b), modelCompare(a, b); c != want {
				t.Fatalf("Compare(%v, %v) is %d, not %d", a, b, c, want)
			}
		}
	}
}

// P93: entries found, put and dropped.

func TestFind(t *testing.T) {
	l := []api.Entry{entry("a", null()), entry("", null()), entry("c", null()), entry("a", null()), entry("b", null()), entry("c", null())}
	for key, want := range map[string]int{"a": 0, "": 1, "c": 2, "b": 4, "d": -1, "A": -1, "aa": -1, "\xff": -1} {
		if at := val.Find(l, key); at != want {
			t.Errorf("%q is at %d, not at %d", key, at, want)
		}
	}
	if val.Find(nil, "") != -1 || val.Find([]api.Entry{}, "a") != -1 {
		t.Error("an entry was found in none")
	}
}

// told entries: their keys and numbers.
func told(l []api.Entry) string {
	var b strings.Builder
	for _, e := range l {
		fmt.Fprintf(&b, "%s%d ", e.Key, e.V.N)
	}
	return strings.TrimSpace(b.String())
}

// entriesOf a text as told tells it.
func entriesOf(s string) []api.Entry {
	var l []api.Entry
	for _, w := range strings.Fields(s) {
		l = append(l, entry(w[:len(w)-1], whole(int64(w[len(w)-1]-'0'))))
	}
	return l
}

func TestPutAndDrop(t *testing.T) {
	for _, c := range []struct{ l, key, put, drop string }{
		{"", "b", "b9", ""},
		{"", "", "9", ""},
		{"b1", "b", "b9", ""},
		{"a1", "b", "a1 b9", "a1"},
		{"c1", "b", "b9 c1", "c1"},
		{"a1 c2", "b", "a1 b9 c2", "a1 c2"},
		{"a1 b2 c3", "b", "a1 b9 c3", "a1 c3"},
		{"a1 b2 c3", "", "9 a1 b2 c3", "a1 b2 c3"},
		{"a1 b2 c3", "d", "a1 b2 c3 d9", "a1 b2 c3"},
		{"a1 b2 c3", "aa", "a1 aa9 b2 c3", "a1 b2 c3"},
		{"a1 b2 c3", "é", "a1 b2 c3 é9", "a1 b2 c3"},
		// In no order, or more than once.
		{"b1 b2", "b", "b9", ""},
		{"b1 a2 b3", "b", "a2 b9", "a2"},
		{"c1 a2", "b", "b9 c1 a2", "c1 a2"},
		{"a1 c2 a3 c4", "b", "a1 b9 c2 a3 c4", "a1 c2 a3 c4"},
		{"b1 c2 b3 a4 b5", "b", "b9 c2 a4", "c2 a4"},
		{"a1 b2 a3 b4 a5", "b", "a1 a3 a5 b9", "a1 a3 a5"},
		{"c1 c2", "b", "b9 c1 c2", "c1 c2"},
	} {
		if l := val.Put(entriesOf(c.l), c.key, whole(9)); told(l) != c.put {
			t.Errorf("Put of %q to %q is %q, not %q", c.key, c.l, told(l), c.put)
		}
		if l := val.Drop(entriesOf(c.l), c.key); told(l) != c.drop {
			t.Errorf("Drop of %q of %q is %q, not %q", c.key, c.l, told(l), c.drop)
		}
	}
}

func TestEntriesOfEachShortList(t *testing.T) {
	lists := [][]api.Entry{nil}
	for i := 0; i < len(lists); i++ {
		if len(lists[i]) < 4 {
			for k, key := range []string{"a", "b", "c", ""} {
				lists = append(lists, append(slices.Clone(lists[i]), entry(key, whole(int64(10*len(lists[i])+k)))))
			}
		}
	}
	for _, l := range lists {
		for _, key := range []string{"", "a", "b", "c", "d", "aa"} {
			if p, want := val.Put(l, key, list(null())), modelPut(l, key, list(null())); !sameEntries(p, want) {
				t.Fatalf("Put(%v, %q) is %v, not %v", l, key, p, want)
			}
			if d, want := val.Drop(l, key), modelDrop(l, key); !sameEntries(d, want) {
				t.Fatalf("Drop(%v, %q) is %v, not %v", l, key, d, want)
			}
			if at, want := val.Find(l, key), slices.IndexFunc(l, func(e api.Entry) bool { return e.Key == key }); at != want {
				t.Fatalf("Find(%v, %q) is %d, not %d", l, key, at, want)
			}
		}
	}
}

// Good tables stay good: what is put into one, and what is dropped.
func TestPutAndDropOfMadeTables(t *testing.T) {
	m := newMaker(93)
	for i := range 3000 {
		v, w, key := m.good(5), m.good(1+i%4), pick(m, texts())
		if v.Kind != api.VTable {
			continue
		}
		p := val.Put(v.E, key, w)
		at := val.Find(p, key)
		if val.Check(table(p...)) != api.OK || at < 0 || !same(p[at].V, w) || !sameEntries(p, modelPut(v.E, key, w)) {
			t.Fatalf("Put(%v, %q, %v) is %v", v.E, key, w, p)
		}
		d := val.Drop(p, key)
		if val.Check(table(d...)) != api.OK || val.Find(d, key) != -1 || !sameEntries(d, modelDrop(v.E, key)) {
			t.Fatalf("Drop(%v, %q) is %v", p, key, d)
		}
	}
}

func TestCopy(t *testing.T) {
	m := newMaker(931)
	for i := range 3000 {
		v := m.good(i % 7)
		if i%2 == 0 {
			m.spoil(&v)
		}
		was := bare(v)
		c := val.Copy(v)
		if !same(c, was) {
			t.Fatalf("Copy(%.500s) is %.500s", fmt.Sprint(v), fmt.Sprint(c))
		}
		scribble(&c)
		if !same(v, was) {
			t.Fatalf("%.500s shares memory with its copy", fmt.Sprint(was))
		}
	}
}

// P2: nothing that is handed in is changed or kept, and answers are new memory.
func TestAnswersAreNewMemory(t *testing.T) {
	make1 := func() ([]api.Entry, api.Value) {
		part := list(whole(1), table(entry("x", list(null()))))
		room := []api.Entry{entry("a", part), entry("c", part), entry("d", table(entry("y", part))), entry("room", null()), entry("room", null())}
		return room[:3], list(part, part)
	}
	for _, key := range []string{"a", "b", "c", "d", "e"} {
		l, v := make1()
		pristine, value := make1()
		for name, call := range map[string]func() []api.Entry{
			"Put":  func() []api.Entry { return val.Put(l, key, v) },
			"Drop": func() []api.Entry { return val.Drop(l, key) },
		} {
			made := call()
			want := table(made...)
			want = bare(want)
			if !sameEntries(l[:5], pristine[:5]) || !same(v, value) {
				t.Errorf("%s of %q changes what is handed in", name, key)
			}
			for i := range made {
				scribble(&made[i].V)
				for k := i + 1; k < len(made); k++ {
					if !same(made[k].V, want.E[k].V) {
						t.Errorf("%s of %q: entries %d and %d share memory", name, key, i, k)
					}
				}
			}
			scribbleEntries(made)
			if !sameEntries(l[:5], pristine[:5]) || !same(v, value) {
				t.Errorf("what %s of %q answers shares memory with what is handed in", name, key)
			}
		}
	}
	l, v := make1()
	made := val.Put(l, "b", v)
	scribble(&made[1].V.L[0])
	if _, value := make1(); !same(made[1].V.L[1], value.L[1]) {
		t.Error("two parts of what is put share memory")
	}
	scribbleEntries(l)
	scribble(&v)
	if l, _ := make1(); !same(made[0].V, l[0].V) || !same(made[2].V, l[1].V) {
		t.Error("what was answered hangs on what was handed in")
	}
}

// P1 and P2: all other calls leave what they are given as it is.
func TestNothingIsChanged(t *testing.T) {
	m := newMaker(1)
	for i := range 500 {
		a, b := m.good(i%8), m.good(i%8)
		m.spoil(&a)
		was, other := bare(a), bare(b)
		val.Check(a)
		val.Compare(a, b)
		val.Depth(a)
		val.Nodes(a)
		val.Find(a.E, "a")
		if !same(a, was) || !same(b, other) {
			t.Fatalf("%.500s was changed", fmt.Sprint(was))
		}
	}
}

// TestVeryDeepValues: a value may be so deep that calls within calls would not answer any more.
func TestVeryDeepValues(t *testing.T) {
	defer debug.SetMaxStack(debug.SetMaxStack(1 << 20))
	const deep = 200000
	v, w := nested(deep, null()), nested(deep, whole(1))
	u := null()
	for range deep {
		u = table(entry("k", u))
	}
	if val.Depth(v) != deep+1 || val.Nodes(v) != deep+1 || val.Depth(u) != deep+1 || val.Nodes(u) != deep+1 {
		t.Error("of very deep values depth or nodes are wrong")
	}
	if val.Check(v) != api.ErrDeep || val.Check(u) != api.ErrDeep {
		t.Error("very deep values are good")
	}
	if val.Compare(v, w) != -1 || val.Compare(w, v) != 1 || val.Compare(v, v) != 0 || val.Compare(u, u) != 0 || val.Compare(v, u) != -1 {
		t.Error("very deep values stand wrong")
	}
	p := val.Put(nil, "a", v)
	if len(p) != 1 || val.Compare(p[0].V, v) != 0 || val.Compare(val.Drop(p, "b")[0].V, v) != 0 {
		t.Error("a very deep value is put wrong")
	}
}
