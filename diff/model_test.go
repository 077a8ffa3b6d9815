package diff_test

import (
	"fmt"
	"math"
	"math/rand/v2"
	"reflect"
	"slices"
	"strings"

	"typecase/api"
	"typecase/path"
	"typecase/upd"
	"typecase/val"
)

// The reference of these tests: the document's words, by other means than the program's: a way between lists as pairs of elements that stay, and what these save of dropping all and adding all.

func null() api.Value { return api.Value{} }

func boolean(n int64) api.Value { return api.Value{Kind: api.VBool, N: n} }

func whole(n int64) api.Value { return api.Value{Kind: api.VInt, N: n} }

func fraction(bits uint64) api.Value { return api.Value{Kind: api.VFloat, F: bits} }

func number(f float64) api.Value { return fraction(math.Float64bits(f)) }

func text(s string) api.Value { return api.Value{Kind: api.VText, S: s} }

func list(l ...api.Value) api.Value { return api.Value{Kind: api.VList, L: l} }

func table(l ...api.Entry) api.Value { return api.Value{Kind: api.VTable, E: l} }

func entry(key string, v api.Value) api.Entry { return api.Entry{Key: key, V: v} }

func key(s string) api.Step { return api.Step{Key: s, I: -1} }

func place(i int) api.Step { return api.Step{I: i} }

func steps(p ...api.Step) []api.Step { return p }

// nested: a value with so many lists around it.
func nested(lists int, v api.Value) api.Value {
	for range lists {
		v = list(v)
	}
	return v
}

// times: a list of so many times one value.
func times(count int, v api.Value) api.Value { return list(slices.Repeat([]api.Value{v}, count)...) }

// noughts: a list of so many times nothing.
func noughts(count int) api.Value { return times(count, null()) }

// entries: a table of so many, of one value.
func entries(count int, v api.Value) api.Value {
	t := table()
	for i := range count {
		t.E = append(t.E, entry(fmt.Sprintf("k%03d", i), v))
	}
	return t
}

// size of a value: its nodes.
func size(v api.Value) int {
	count := 1
	for _, part := range v.L {
		count += size(part)
	}
	for _, e := range v.E {
		count += size(e.V)
	}
	return count
}

// modelFar by P170's words.
func modelFar(a, b api.Value) int {
	switch {
	case same(a, b):
		return 0
	case a.Kind == 6 && b.Kind == 6:
		return modelFarTables(a, b)
	case a.Kind == 5 && b.Kind == 5:
		return size(a) + size(b) - 2 - modelSaved(a.L, b.L)
	}
	return size(a) + size(b)
}

func modelFarTables(a, b api.Value) int {
	values := map[string][]api.Value{}
	for _, e := range slices.Concat(a.E, b.E) {
		values[e.Key] = append(values[e.Key], e.V)
	}
	sum := 0
	for _, l := range values {
		if len(l) == 2 {
			sum += modelFar(l[0], l[1])
		} else {
			sum += size(l[0])
		}
	}
	return sum
}

// modelSaved: the most that is saved where elements of one list become elements of the other, and their order stays.
func modelSaved(a, b []api.Value) int {
	// most[k]: of what stands behind in a, and in b from k on.
	most := make([]int, len(b)+1)
	for _, x := range slices.Backward(a) {
		next := slices.Clone(most)
		for k, y := range b {
			saved := size(x) + size(y) - modelFar(x, y) + most[k+1]
			for from := range k + 1 {
				next[from] = max(next[from], saved)
			}
		}
		most = next
	}
	return most[0]
}

// modelErr: what Far and Diff refuse, by P170's words.
func modelErr(a, b api.Value) api.Errno {
	if e := val.Check(a); e != api.OK {
		return e
	}
	if e := val.Check(b); e != api.OK {
		return e
	}
	if size(a)+size(b) > 200 {
		return api.ErrLarge
	}
	return api.OK
}

// modelCost by P171's words.
func modelCost(v api.Value, l []api.Op) (int, api.Errno) {
	if _, _, e := upd.All(v, l); e != api.OK {
		return 0, e
	}
	sum := 0
	for _, o := range l {
		was, _ := path.Get(v, o.P)
		v, _ = upd.Apply(v, o)
		switch o.Kind {
		case 1:
			sum += size(was) + size(o.V)
		case 2:
			sum += size(o.V)
		case 3:
			sum += size(was)
		case 4:
			sum += 2 * size(was)
		}
	}
	return sum, api.OK
}

// same values, whether lists that have nothing in them are nil or empty?
func same(a, b api.Value) bool {
	alone := func(v api.Value) api.Value {
		v.L, v.E = nil, nil
		return v
	}
	return reflect.DeepEqual(alone(a), alone(b)) && slices.EqualFunc(a.L, b.L, same) &&
		slices.EqualFunc(a.E, b.E, func(x, y api.Entry) bool { return x.Key == y.Key && same(x.V, y.V) })
}

func sameOps(a, b []api.Op) bool {
	return slices.EqualFunc(a, b, func(x, y api.Op) bool {
		return x.Kind == y.Kind && slices.Equal(x.P, y.P) && same(x.V, y.V) && x.Key == y.Key
	})
}

// partsBy a function: a copy of a value's lists, part by part.
func partsBy(v api.Value, part func(api.Value) api.Value) api.Value {
	c := v
	c.L, c.E = nil, nil
	for _, x := range v.L {
		c.L = append(c.L, part(x))
	}
	for _, e := range v.E {
		c.E = append(c.E, entry(e.Key, part(e.V)))
	}
	return c
}

// bare copy of a value: nil for each list that has nothing in it.
func bare(v api.Value) api.Value { return partsBy(v, bare) }

// roomy copy of a value: behind each of its lists there is room, with something in it.
func roomy(v api.Value) api.Value {
	c := partsBy(v, roomy)
	c.L = append(c.L, text("behind"), text("behind"))[:len(v.L)]
	c.E = append(c.E, entry("behind", null()), entry("behind", null()))[:len(v.E)]
	return c
}

// roomOf a value: a copy, with what stands behind its lists.
func roomOf(v api.Value) api.Value {
	v.L, v.E = v.L[:cap(v.L)], v.E[:cap(v.E)]
	return partsBy(v, roomOf)
}

func bareOps(l []api.Op) []api.Op {
	var c []api.Op
	for _, o := range l {
		c = append(c, api.Op{Kind: o.Kind, P: slices.Clone(o.P), V: bare(o.V), Key: o.Key})
	}
	return c
}

func roomyOps(l []api.Op) []api.Op {
	var c []api.Op
	for _, o := range l {
		p := append(slices.Clone(o.P), key("behind"), place(7))[:len(o.P)]
		c = append(c, api.Op{Kind: o.Kind, P: p, V: roomy(o.V), Key: o.Key})
	}
	return append(c, api.Op{Kind: 77})[:len(c)]
}

func roomOfOps(l []api.Op) []api.Op {
	var c []api.Op
	for _, o := range l[:cap(l)] {
		c = append(c, api.Op{Kind: o.Kind, P: slices.Clone(o.P[:cap(o.P)]), V: roomOf(o.V), Key: o.Key})
	}
	return c
}

// scribble over all of a value's memory, the room behind its lists included.
func scribble(v *api.Value) {
	for i := range v.L[:cap(v.L)] {
		scribble(&v.L[:cap(v.L)][i])
	}
	for i := range v.E[:cap(v.E)] {
		scribble(&v.E[:cap(v.E)][i].V)
		v.E[:cap(v.E)][i].Key = "scribble"
	}
	*v = api.Value{Kind: -7, N: 7, F: 7, S: "scribble"}
}

// scribbleOp likewise.
func scribbleOp(o *api.Op) {
	for i := range o.P[:cap(o.P)] {
		o.P[:cap(o.P)][i] = api.Step{Key: "scribble", I: -7}
	}
	scribble(&o.V)
	*o = api.Op{Kind: -7, Key: "scribble"}
}

// badValues: one for each of val.Check's errors, at least.
func badValues() []api.Value {
	return []api.Value{{Kind: 9}, {Kind: -1}, boolean(2), text("\xff"), noughts(201), times(20, noughts(100)), nested(20, null()), table(entry("b", null()), entry("a", null())), table(entry("a", null()), entry("a", null())), {Kind: api.VNull, N: 1}, list(text(strings.Repeat("x", 4001))), table(entry(strings.Repeat("k", 101), null())), table(entry("\xff", null())), fraction(0x7ff8000000000002)}
}

// leaves: values without parts, no two the same.
func leaves() []api.Value {
	return []api.Value{null(), boolean(0), boolean(1), whole(0), whole(1), whole(-1), whole(math.MaxInt64), whole(math.MinInt64), number(0), number(math.Copysign(0, -1)), number(1), number(math.Inf(1)), fraction(0x7ff8000000000001), text(""), text("a"), text("b"), text("null"), text("é\x00"), list(), table()}
}

// valuesOf so many nodes: all, over few leaves and few keys.
func valuesOf(nodes int) []api.Value {
	if nodes == 1 {
		return []api.Value{null(), whole(1), list(), table()}
	}
	var l []api.Value
	for _, parts := range rowsOf(nodes - 1) {
		l = append(l, list(parts...))
		switch len(parts) {
		case 1:
			l = append(l, table(entry("a", parts[0])), table(entry("b", parts[0])))
		case 2:
			l = append(l, table(entry("a", parts[0]), entry("b", parts[1])))
		}
	}
	return l
}

// rowsOf values that have so many nodes in all: all of them.
func rowsOf(nodes int) [][]api.Value {
	if nodes == 0 {
		return [][]api.Value{nil}
	}
	var l [][]api.Value
	for first := 1; first <= nodes; first++ {
		for _, v := range valuesOf(first) {
			for _, others := range rowsOf(nodes - first) {
				l = append(l, append([]api.Value{v}, others...))
			}
		}
	}
	return l
}

func valuesUpTo(nodes int) []api.Value {
	var l []api.Value
	for n := 1; n <= nodes; n++ {
		l = append(l, valuesOf(n)...)
	}
	return l
}

// maker of values and updates; the same ones in each run.
type maker struct{ *rand.Rand }

func newMaker(seed uint64) maker { return maker{rand.New(rand.NewPCG(17, seed))} }

func pick[T any](m maker, l []T) T { return l[m.IntN(len(l))] }

// keys: few, so that they meet; in order.
func keys() []string {
	return []string{"", "\x00", "B", "a", "aa", "b", "c", strings.Repeat("k", 100), "é"}
}

// value that is good, at most so deep.
func (m maker) value(deep int) api.Value {
	kind := m.IntN(6)
	if deep <= 1 {
		kind = 0
	}
	switch kind {
	case 3, 4:
		v := list()
		for range m.IntN(5) {
			v.L = append(v.L, m.value(deep-1))
		}
		return v
	case 5:
		v := table()
		for _, k := range keys() {
			if m.IntN(4) == 0 {
				v.E = append(v.E, entry(k, m.value(deep-1)))
			}
		}
		return v
	case 0:
		return pick(m, leaves())
	}
	return whole(m.Int64N(3))
}

// changed: a value that has been changed at some places.
func (m maker) changed(v api.Value) api.Value {
	for range 1 + m.IntN(5) {
		if next, e := upd.Apply(v, m.update(v)); e == api.OK {
			v = next
		}
	}
	return v
}

// update of a value; there may be nothing for it to change.
func (m maker) update(v api.Value) api.Op {
	o := api.Op{Kind: 1 + m.IntN(4), P: slices.Clone(pick(m, path.All(v))), V: m.value(1 + m.IntN(3)), Key: pick(m, keys())}
	if o.Kind != api.UAdd {
		return o
	}
	if there, _ := path.Get(v, o.P); there.Kind == api.VList {
		o.P = append(o.P, place(m.IntN(len(there.L)+1)))
	} else {
		o.P = append(o.P, key(pick(m, keys())))
	}
	return o
}
