package merge_test

import (
	"fmt"
	"maps"
	"math"
	"math/rand/v2"
	"slices"
	"strings"

	"typecase/api"
	"typecase/path"
	"typecase/upd"
	"typecase/val"
)

// The reference of these tests: the document's words, by other means than the program's: tables as maps, gone through in no order, and what is told of them sorted in the end.

func null() api.Value { return api.Value{} }

func boolean(n int64) api.Value { return api.Value{Kind: api.VBool, N: n} }

func whole(n int64) api.Value { return api.Value{Kind: api.VInt, N: n} }

func fraction(bits uint64) api.Value { return api.Value{Kind: api.VFloat, F: bits} }

func number(f float64) api.Value { return fraction(math.Float64bits(f)) }

func text(s string) api.Value { return api.Value{Kind: api.VText, S: s} }

func list(l ...api.Value) api.Value { return api.Value{Kind: api.VList, L: l} }

func table(l ...api.Entry) api.Value { return api.Value{Kind: api.VTable, E: l} }

func entry(key string, v api.Value) api.Entry { return api.Entry{Key: key, V: v} }

// at a key: a table of one entry.
func at(key string, v api.Value) api.Value { return table(entry(key, v)) }

// nested: a value with so many lists around it.
func nested(lists int, v api.Value) api.Value {
	for range lists {
		v = list(v)
	}
	return v
}

// nestedAt a key: a value with so many tables around it.
func nestedAt(key string, tables int, v api.Value) api.Value {
	for range tables {
		v = at(key, v)
	}
	return v
}

// times: a list of so many times one value.
func times(count int, v api.Value) api.Value { return list(slices.Repeat([]api.Value{v}, count)...) }

// noughts: a list of so many times nothing.
func noughts(count int) api.Value { return times(count, null()) }

// entries: a table of so many, of one value, whose keys begin alike.
func entries(start string, count int, v api.Value) api.Value {
	t := table()
	for i := range count {
		t.E = append(t.E, entry(fmt.Sprintf("%s%03d", start, i), v))
	}
	return t
}

// both tables' entries, in order. (They have no key in common.)
func both(v, w api.Value) api.Value {
	l := slices.Concat(v.E, w.E)
	slices.SortFunc(l, func(x, y api.Entry) int { return strings.Compare(x.Key, y.Key) })
	return table(l...)
}

// maybe a value: one, or none.
type maybe []api.Value

func one(v api.Value) maybe { return maybe{v} }

// model of Merge: the keys that lead to where three clash.
type model struct{ clashes [][]string }

// modelMerge by P180's and P181's words.
func modelMerge(base, a, b api.Value) (api.Value, [][]api.Step, api.Errno) {
	for _, v := range []api.Value{base, a, b} {
		if e := val.Check(v); e != api.OK {
			return api.Value{}, nil, e
		}
	}
	var m model
	made := m.merged(one(base), one(a), one(b), nil)
	if len(m.clashes) > 0 {
		return api.Value{}, m.paths(), api.ErrClash
	}
	if e := val.Check(made[0]); e != api.OK {
		return api.Value{}, nil, e
	}
	return made[0], nil, api.OK
}

// paths that begin with the same keys stand by the first one that is not the same: so those of a table stand by its keys.
func (m *model) paths() [][]api.Step {
	slices.SortFunc(m.clashes, slices.Compare[[]string])
	var l [][]api.Step
	for _, keys := range m.clashes {
		var p []api.Step
		for _, key := range keys {
			p = append(p, api.Step{Key: key, I: -1})
		}
		l = append(l, p)
	}
	return l
}

func (m *model) merged(base, a, b maybe, here []string) maybe {
	is := func(v, w maybe) bool { return slices.EqualFunc(v, w, same) }
	isTable := func(v maybe) bool { return len(v) == 1 && v[0].Kind == 6 }
	if is(a, b) {
		return a
	}
	if is(a, base) {
		return b
	}
	if is(b, base) {
		return a
	}
	if isTable(base) && isTable(a) && isTable(b) {
		return m.tables(base[0], a[0], b[0], here)
	}
	m.clashes = append(m.clashes, here)
	return nil
}

func (m *model) tables(base, a, b api.Value, here []string) maybe {
	values := map[string]*[3]maybe{}
	for i, v := range []api.Value{base, a, b} {
		for _, e := range v.E {
			if values[e.Key] == nil {
				values[e.Key] = &[3]maybe{}
			}
			values[e.Key][i] = one(e.V)
		}
	}
	made := map[string]api.Value{}
	for key, l := range values {
		if v := m.merged(l[0], l[1], l[2], append(slices.Clone(here), key)); v != nil {
			made[key] = v[0]
		}
	}
	t := table()
	for _, key := range slices.Sorted(maps.Keys(made)) {
		t.E = append(t.E, entry(key, made[key]))
	}
	return one(t)
}

// same values, whether lists that have nothing in them are nil or empty?
func same(v, w api.Value) bool {
	return v.Kind == w.Kind && v.N == w.N && v.F == w.F && v.S == w.S && slices.EqualFunc(v.L, w.L, same) &&
		slices.EqualFunc(v.E, w.E, func(x, y api.Entry) bool { return x.Key == y.Key && same(x.V, y.V) })
}

func samePaths(l, k [][]api.Step) bool { return slices.EqualFunc(l, k, slices.Equal[[]api.Step]) }

// partsBy a function: a copy of a value's lists, part by part.
func partsBy(v api.Value, part func(api.Value) api.Value) api.Value {
	c := v
	c.L, c.E = nil, nil
	for _, x := range v.L {
		c.L = append(c.L, part(x))
	}
	for _, e := range v.E {
		c.E = append(c.E, entry(e.Key, part(e.V)))
	}
	return c
}

// bare copy of a value: nil for each list that has nothing in it.
func bare(v api.Value) api.Value { return partsBy(v, bare) }

// roomy copy of a value: behind each of its lists there is room, with something in it.
func roomy(v api.Value) api.Value {
	c := partsBy(v, roomy)
	c.L = append(c.L, text("behind"), text("behind"))[:len(v.L)]
	c.E = append(c.E, entry("behind", null()), entry("behind", null()))[:len(v.E)]
	return c
}

// roomOf a value: a copy, with what stands behind its lists.
func roomOf(v api.Value) api.Value {
	v.L, v.E = v.L[:cap(v.L)], v.E[:cap(v.E)]
	return partsBy(v, roomOf)
}

func barePaths(l [][]api.Step) [][]api.Step {
	var c [][]api.Step
	for _, p := range l {
		c = append(c, slices.Clone(p))
	}
	return c
}

// scribble over all of a value's memory, the room behind its lists included.
func scribble(v *api.Value) {
	for i := range v.L[:cap(v.L)] {
		scribble(&v.L[:cap(v.L)][i])
	}
	for i := range v.E[:cap(v.E)] {
		scribble(&v.E[:cap(v.E)][i].V)
		v.E[:cap(v.E)][i].Key = "scribble"
	}
	*v = api.Value{Kind: -7, N: 7, F: 7, S: "scribble"}
}

// scribblePath likewise.
func scribblePath(p []api.Step) {
	for i := range p[:cap(p)] {
		p[:cap(p)][i] = api.Step{Key: "scribble", I: -7}
	}
}

// badValues: one for each of val.Check's errors, at least.
func badValues() []api.Value {
	return []api.Value{{Kind: 9}, {Kind: -1}, boolean(2), text("\xff"), noughts(201), times(20, noughts(100)), nested(20, null()), nestedAt("a", 20, null()), table(entry("b", null()), entry("a", null())), table(entry("a", null()), entry("a", null())), {Kind: api.VNull, N: 1}, list(text(strings.Repeat("x", 4001))), at(strings.Repeat("k", 101), null()), at("\xff", null()), entries("k", 201, null()), fraction(0x7ff8000000000002)}
}

// leaves: values without parts, no two the same.
func leaves() []api.Value {
	return []api.Value{null(), boolean(0), boolean(1), whole(0), whole(1), whole(-1), whole(math.MaxInt64), whole(math.MinInt64), number(0), number(math.Copysign(0, -1)), number(1), number(math.Inf(1)), fraction(0x7ff8000000000001), text(""), text("a"), text("b"), text("null"), text("é\x00"), list(), table()}
}

// smallTables: all of at most so deep over two keys, and what may stand at them beside tables.
func smallTables(deep int, others ...api.Value) []api.Value {
	if deep == 0 {
		return nil
	}
	var values []maybe
	for _, v := range append(smallTables(deep-1, others...), others...) {
		values = append(values, one(v))
	}
	values = append(values, nil)
	var l []api.Value
	for _, a := range values {
		for _, b := range values {
			t := table()
			for _, v := range a {
				t.E = append(t.E, entry("a", v))
			}
			for _, v := range b {
				t.E = append(t.E, entry("b", v))
			}
			l = append(l, t)
		}
	}
	return l
}

// maker of values and updates; the same ones in each run.
type maker struct{ *rand.Rand }

func newMaker(seed uint64) maker { return maker{rand.New(rand.NewPCG(18, seed))} }

func pick[T any](m maker, l []T) T { return l[m.IntN(len(l))] }

// keys: few, so that they meet; in order.
func keys() []string {
	return []string{"", "\x00", "B", "a", "a\x00", "aa", "b", "c", strings.Repeat("k", 100), "é"}
}

// value that is good, at most so deep. Most are tables, as they alone are merged.
func (m maker) value(deep int) api.Value {
	kind := m.IntN(8)
	if deep <= 1 {
		kind = m.IntN(2)
	}
	switch kind {
	case 0:
		return pick(m, leaves())
	case 1:
		return whole(m.Int64N(3))
	case 2:
		v := list()
		for range m.IntN(4) {
			v.L = append(v.L, m.value(deep-1))
		}
		return v
	}
	return m.table(deep)
}

func (m maker) table(deep int) api.Value {
	v := table()
	for _, k := range keys() {
		if m.IntN(3) == 0 {
			v.E = append(v.E, entry(k, m.value(deep-1)))
		}
	}
	return v
}

// changed: a value that has been changed at some places, at most so many.
func (m maker) changed(v api.Value, most int) api.Value {
	for range m.IntN(most + 1) {
		if next, e := upd.Apply(v, m.update(v)); e == api.OK {
			v = next
		}
	}
	return v
}

// update of a value; there may be nothing for it to change.
func (m maker) update(v api.Value) api.Op {
	o := api.Op{Kind: 1 + m.IntN(4), P: slices.Clone(pick(m, path.All(v))), V: m.value(1 + m.IntN(3)), Key: pick(m, keys())}
	if o.Kind != api.UAdd {
		return o
	}
	if there, _ := path.Get(v, o.P); there.Kind == api.VList {
		o.P = append(o.P, api.Step{I: m.IntN(len(there.L) + 1)})
	} else {
		o.P = append(o.P, api.Step{Key: pick(m, keys()), I: -1})
	}
	return o
}

// touched by an update: the paths, by keys alone, to all that it may change. A list is one thing, whatever is changed within it.
func touched(o api.Op) [][]string {
	var keys []string
	for _, step := range o.P {
		if step.I >= 0 {
			return [][]string{keys}
		}
		keys = append(keys, step.Key)
	}
	l := [][]string{keys}
	if o.Kind == api.UName {
		l = append(l, append(slices.Clone(keys[:len(keys)-1]), o.Key))
	}
	return l
}

// apart, so that neither update touches what the other one does, or what that stands in?
func apart(o, other api.Op) bool {
	for _, p := range touched(o) {
		for _, q := range touched(other) {
			n := min(len(p), len(q))
			if slices.Equal(p[:n], q[:n]) {
				return false
			}
		}
	}
	return true
}
