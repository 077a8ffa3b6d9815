package upd_test

import (
	"maps"
	"math/rand/v2"
	"reflect"
	"slices"
	"strings"
	"unicode/utf8"

	"typecase/api"
	"typecase/path"
	"typecase/val"
)

// The reference of these tests: the document's words, by other means than the program's.

func null() api.Value { return api.Value{} }

func whole(n int64) api.Value { return api.Value{Kind: api.VInt, N: n} }

func text(s string) api.Value { return api.Value{Kind: api.VText, S: s} }

func list(l ...api.Value) api.Value { return api.Value{Kind: api.VList, L: l} }

func table(l ...api.Entry) api.Value { return api.Value{Kind: api.VTable, E: l} }

func entry(key string, v api.Value) api.Entry { return api.Entry{Key: key, V: v} }

func key(s string) api.Step { return api.Step{Key: s, I: -1} }

func place(i int) api.Step { return api.Step{I: i} }

func steps(p ...api.Step) []api.Step { return p }

// nested: a value with so many lists around it.
func nested(lists int, v api.Value) api.Value {
	for range lists {
		v = list(v)
	}
	return v
}

// noughts: a list of so many times nothing.
func noughts(count int) api.Value { return list(make([]api.Value, count)...) }

// loose value: one that can be changed in its place, its entries in no order.
type loose struct {
	alone    api.Value
	elements []*loose
	entries  map[string]*loose
}

func loosen(v api.Value) *loose {
	l := &loose{alone: v, entries: map[string]*loose{}}
	l.alone.L, l.alone.E = nil, nil
	for _, part := range v.L {
		l.elements = append(l.elements, loosen(part))
	}
	for _, e := range v.E {
		l.entries[e.Key] = loosen(e.V)
	}
	return l
}

func (l *loose) tied() api.Value {
	v := l.alone
	for _, part := range l.elements {
		v.L = append(v.L, part.tied())
	}
	for _, k := range slices.Sorted(maps.Keys(l.entries)) {
		v.E = append(v.E, entry(k, l.entries[k].tied()))
	}
	return v
}

// to where a path leads that path.Get takes.
func (l *loose) to(p []api.Step) *loose {
	for _, s := range p {
		if s.I < 0 {
			l = l.entries[s.Key]
		} else {
			l = l.elements[s.I]
		}
	}
	return l
}

// modelCheck: P140's words, up to `then`.
func modelCheck(v api.Value, o api.Op) api.Errno {
	if e := val.Check(v); e != api.OK {
		return e
	}
	if !slices.Contains([]int{1, 2, 3, 4}, o.Kind) {
		return api.ErrArg
	}
	if e := path.Check(o.P); e != api.OK {
		return e
	}
	if o.Kind == 1 || o.Kind == 2 {
		if e := val.Check(o.V); e != api.OK {
			return e
		}
	}
	if o.Kind == 4 && len(o.Key) > 100 {
		return api.ErrLarge
	}
	if o.Kind == 4 && !utf8.ValidString(o.Key) {
		return api.ErrText
	}
	if o.Kind >= 2 && len(o.P) == 0 {
		return api.ErrArg
	}
	return api.OK
}

// modelApply by P140's words.
func modelApply(v api.Value, o api.Op) (api.Value, api.Errno) {
	if e := modelCheck(v, o); e != api.OK {
		return null(), e
	}
	root := loosen(v)
	e := map[int]func(*loose, api.Value, api.Op) api.Errno{1: modelSet, 2: modelAdd, 3: modelDrop, 4: modelName}[o.Kind](root, v, o)
	if e != api.OK {
		return null(), e
	}
	made := root.tied()
	if e := val.Check(made); e != api.OK {
		return null(), e
	}
	return made, api.OK
}

func modelSet(root *loose, v api.Value, o api.Op) api.Errno {
	if _, e := path.Get(v, o.P); e != api.OK {
		return e
	}
	*root.to(o.P) = *loosen(o.V)
	return api.OK
}

func modelAdd(root *loose, v api.Value, o api.Op) api.Errno {
	above, last := o.P[:len(o.P)-1], o.P[len(o.P)-1]
	there, e := path.Get(v, above)
	if e != api.OK {
		return e
	}
	in := root.to(above)
	if last.I < 0 {
		if there.Kind != 6 {
			return api.ErrKind
		}
		if in.entries[last.Key] != nil {
			return api.ErrThere
		}
		in.entries[last.Key] = loosen(o.V)
		return api.OK
	}
	if there.Kind != 5 {
		return api.ErrKind
	}
	if last.I > len(there.L) {
		return api.ErrNone
	}
	var longer []*loose
	longer = append(longer, in.elements[:last.I]...)
	longer = append(longer, loosen(o.V))
	in.elements = append(longer, in.elements[last.I:]...)
	return api.OK
}

func modelDrop(root *loose, v api.Value, o api.Op) api.Errno {
	if _, e := path.Get(v, o.P); e != api.OK {
		return e
	}
	in, last := root.to(o.P[:len(o.P)-1]), o.P[len(o.P)-1]
	if last.I < 0 {
		delete(in.entries, last.Key)
		return api.OK
	}
	var shorter []*loose
	for i, part := range in.elements {
		if i != last.I {
			shorter = append(shorter, part)
		}
	}
	in.elements = shorter
	return api.OK
}

func modelName(root *loose, v api.Value, o api.Op) api.Errno {
	if _, e := path.Get(v, o.P); e != api.OK {
		return e
	}
	in, last := root.to(o.P[:len(o.P)-1]), o.P[len(o.P)-1]
	if last.I >= 0 {
		return api.ErrKind
	}
	if o.Key == last.Key {
		return api.OK
	}
	if in.entries[o.Key] != nil {
		return api.ErrThere
	}
	in.entries[o.Key] = in.entries[last.Key]
	delete(in.entries, last.Key)
	return api.OK
}

// modelAll by P141's words.
func modelAll(v api.Value, l []api.Op) (api.Value, int, api.Errno) {
	if len(l) == 0 && val.Check(v) != api.OK {
		return null(), 0, val.Check(v)
	}
	for i, o := range l {
		next, e := modelApply(v, o)
		if e != api.OK {
			return null(), i, e
		}
		v = next
	}
	return v, 0, api.OK
}

// modelUndo by P142's words.
func modelUndo(v api.Value, o api.Op) (api.Op, api.Errno) {
	if _, e := modelApply(v, o); e != api.OK {
		return api.Op{}, e
	}
	was, _ := path.Get(v, o.P)
	switch o.Kind {
	case 1:
		return api.Op{Kind: 1, P: o.P, V: was}, api.OK
	case 2:
		return api.Op{Kind: 3, P: o.P}, api.OK
	case 3:
		return api.Op{Kind: 2, P: o.P, V: was}, api.OK
	}
	above, last := o.P[:len(o.P)-1], o.P[len(o.P)-1]
	return api.Op{Kind: 4, P: append(slices.Clone(above), key(o.Key)), Key: last.Key}, api.OK
}

// same values, whether lists that have nothing in them are nil or empty?
func same(a, b api.Value) bool { return reflect.DeepEqual(bare(a), bare(b)) }

// sameOp likewise.
func sameOp(a, b api.Op) bool {
	return a.Kind == b.Kind && slices.Equal(a.P, b.P) && same(a.V, b.V) && a.Key == b.Key
}

// bare copy of a value: nil for each list that has nothing in it.
func bare(v api.Value) api.Value {
	c := v
	c.L, c.E = nil, nil
	for _, part := range v.L {
		c.L = append(c.L, bare(part))
	}
	for _, e := range v.E {
		c.E = append(c.E, entry(e.Key, bare(e.V)))
	}
	return c
}

func bareOp(o api.Op) api.Op {
	return api.Op{Kind: o.Kind, P: slices.Clone(o.P), V: bare(o.V), Key: o.Key}
}

// roomy copy of a value: behind each of its lists there is room, with something in it.
func roomy(v api.Value) api.Value {
	c := v
	c.L, c.E = nil, nil
	for _, part := range v.L {
		c.L = append(c.L, roomy(part))
	}
	for _, e := range v.E {
		c.E = append(c.E, entry(e.Key, roomy(e.V)))
	}
	c.L = append(c.L, text("behind"), text("behind"))[:len(v.L)]
	c.E = append(c.E, entry("behind", null()), entry("behind", null()))[:len(v.E)]
	return c
}

// roomOf a value: with what stands behind its lists.
func roomOf(v api.Value) api.Value {
	v.L, v.E = v.L[:cap(v.L)], v.E[:cap(v.E)]
	c := v
	c.L, c.E = nil, nil
	for _, part := range v.L {
		c.L = append(c.L, roomOf(part))
	}
	for _, e := range v.E {
		c.E = append(c.E, entry(e.Key, roomOf(e.V)))
	}
	return c
}

// scribble over all of a value's memory, the room behind its lists included.
func scribble(v *api.Value) {
	for i := range v.L[:cap(v.L)] {
		scribble(&v.L[:cap(v.L)][i])
	}
	for i := range v.E[:cap(v.E)] {
		scribble(&v.E[:cap(v.E)][i].V)
		v.E[:cap(v.E)][i].Key = "scribble"
	}
	*v = api.Value{Kind: -7, N: 7, F: 7, S: "scribble"}
}

// scribbleOp likewise.
func scribbleOp(o *api.Op) {
	for i := range o.P[:cap(o.P)] {
		o.P[:cap(o.P)][i] = api.Step{Key: "scribble", I: -7}
	}
	scribble(&o.V)
	*o = api.Op{Kind: -7, Key: "scribble"}
}

// maker of values and updates; the same ones in each run.
type maker struct{ *rand.Rand }

func newMaker(seed uint64) maker { return maker{rand.New(rand.NewPCG(14, seed))} }

func pick[T any](m maker, l []T) T { return l[m.IntN(len(l))] }

// keys: few, so that they meet.
func keys() []string {
	return []string{"", "a", "B", "b", "c", "a b", "aa", "null", "é", "\x00", strings.Repeat("k", 100)}
}

// value that is good, at most so deep.
func (m maker) value(deep int) api.Value {
	kind := 3 + m.IntN(6)
	if deep <= 1 {
		kind = m.IntN(5)
	}
	switch kind {
	case 5, 6:
		v := list()
		for range m.IntN(4) {
			v.L = append(v.L, m.value(deep-1))
		}
		return v
	case 7, 8:
		v := table()
		for _, k := range slices.Sorted(slices.Values(keys())) {
			if m.IntN(3) == 0 {
				v.E = append(v.E, entry(k, m.value(deep-1)))
			}
		}
		return v
	case 4:
		return text(pick(m, keys()))
	case 3:
		return whole(m.Int64N(100))
	}
	return null()
}

// update of a value; there may be nothing for it to change.
func (m maker) update(v api.Value) api.Op {
	o := api.Op{Kind: 1 + m.IntN(4), P: slices.Clone(pick(m, path.All(v))), V: m.value(1 + m.IntN(3)), Key: pick(m, keys())}
	switch n := m.IntN(10); {
	case n < 4 || n < 8 && o.Kind == api.UAdd:
		o.P = append(o.P, m.stepFrom(v, o.P))
	case n == 8 && len(o.P) > 0:
		o.P[m.IntN(len(o.P))] = m.step()
	}
	return o
}

// stepFrom where a path leads, mostly of its Kind.
func (m maker) stepFrom(v api.Value, p []api.Step) api.Step {
	switch there, _ := path.Get(v, p); {
	case m.IntN(5) == 0:
		return m.step()
	case there.Kind == api.VList:
		return place(m.IntN(len(there.L) + 2))
	}
	return key(pick(m, keys()))
}

func (m maker) step() api.Step {
	if m.IntN(2) == 0 {
		return key(pick(m, keys()))
	}
	return place(pick(m, []int{0, 1, 2, 3, 7, 1 << 62}))
}

// badValues: one for each of val.Check's errors, at least.
func badValues() []api.Value {
	return []api.Value{{Kind: 9}, {Kind: -1}, {Kind: api.VBool, N: 2}, {Kind: api.VText, S: "\xff"}, noughts(201), nested(20, null()), table(entry("b", null()), entry("a", null())), {Kind: api.VNull, N: 1}, list(text(strings.Repeat("x", 4001)))}
}

// spoil an update: something of it is mostly refused, or not looked at.
func (m maker) spoil(o *api.Op) {
	switch m.IntN(5) {
	case 0:
		o.Kind = pick(m, []int{0, -1, 5, 6, 1 << 40, -1 << 63})
	case 1:
		bad := pick(m, []api.Step{place(-2), {Key: "a", I: 0}, key("\xff"), key(strings.Repeat("k", 101))})
		o.P = slices.Insert(o.P, m.IntN(len(o.P)+1), bad)
	case 2:
		o.P = append(o.P, make([]api.Step, 21)...)
	case 3:
		o.V = pick(m, badValues())
	case 4:
		o.Key = pick(m, []string{"\xff", "a\xc3", strings.Repeat("k", 101), strings.Repeat("\xff", 101)})
	}
}
