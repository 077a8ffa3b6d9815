package show_test

import (
	"fmt"
	"math"
	"math/rand/v2"
	"reflect"
	"slices"
	"strings"

	"typecase/api"
	"typecase/esc"
	"typecase/float"
)

// The reference of these tests: the document's words, by other means than the program's.

func null() api.Value { return api.Value{} }

func boolean(n int64) api.Value { return api.Value{Kind: api.VBool, N: n} }

func whole(n int64) api.Value { return api.Value{Kind: api.VInt, N: n} }

func fraction(bits uint64) api.Value { return api.Value{Kind: api.VFloat, F: bits} }

func number(f float64) api.Value { return fraction(math.Float64bits(f)) }

func text(s string) api.Value { return api.Value{Kind: api.VText, S: s} }

func list(l ...api.Value) api.Value { return api.Value{Kind: api.VList, L: l} }

func table(l ...api.Entry) api.Value { return api.Value{Kind: api.VTable, E: l} }

func entry(key string, v api.Value) api.Entry { return api.Entry{Key: key, V: v} }

// nested: a value with so many lists around it.
func nested(lists int, v api.Value) api.Value {
	for range lists {
		v = list(v)
	}
	return v
}

// many times one value.
func many(count int, v api.Value) api.Value { return list(slices.Repeat([]api.Value{v}, count)...) }

// linedUp: a list of lists with so many nodes in all.
func linedUp(nodes int) api.Value {
	v := list()
	for nodes--; nodes > 0; {
		n := min(nodes, 199)
		v.L = append(v.L, many(n-1, null()))
		nodes -= n
	}
	return v
}

// modelLine by P120's words, of good values.
func modelLine(v api.Value) string {
	var parts []string
	switch v.Kind {
	case api.VList:
		for _, part := range v.L {
			parts = append(parts, modelLine(part))
		}
		return "[" + strings.Join(parts, ", ") + "]"
	case api.VTable:
		for _, e := range v.E {
			parts = append(parts, modelKey(e.Key)+modelLine(e.V))
		}
		return "{" + strings.Join(parts, ", ") + "}"
	}
	return modelLeaf(v)
}

// modelShow by P121's words, of good values.
func modelShow(v api.Value) string { return strings.Join(modelLines(v), "\n") + "\n" }

// modelLines of a value that is in nothing: those of its parts are the same ones, further in.
func modelLines(v api.Value) []string {
	marks := map[int]string{api.VList: "[]", api.VTable: "{}"}[v.Kind]
	if marks == "" {
		return []string{modelLeaf(v)}
	}
	if len(v.L)+len(v.E) == 0 {
		return []string{marks}
	}
	var inside []string
	for _, part := range v.L {
		inside = append(inside, modelLines(part)...)
		inside[len(inside)-1] += ","
	}
	for _, e := range v.E {
		first := len(inside)
		inside = append(inside, modelLines(e.V)...)
		inside[first] = modelKey(e.Key) + inside[first]
		inside[len(inside)-1] += ","
	}
	for i := range inside {
		inside[i] = "  " + inside[i]
	}
	return slices.Concat([]string{marks[:1]}, inside, []string{marks[1:]})
}

func modelLeaf(v api.Value) string {
	switch v.Kind {
	case api.VBool:
		return fmt.Sprint(v.N == 1)
	case api.VInt:
		return fmt.Sprint(v.N)
	case api.VFloat:
		return float.Text(v.F)
	case api.VText:
		s, _ := esc.Quote(v.S)
		return s
	}
	return "null"
}

// modelKey with what stands between it and its value.
func modelKey(s string) string {
	told, _ := esc.Key(s)
	return told + ": "
}

// same values, whether lists that have nothing in them are nil or empty?
func same(a, b api.Value) bool { return reflect.DeepEqual(bare(a), bare(b)) }

// bare copy of a value: nil for each list that has nothing in it.
func bare(v api.Value) api.Value {
	c := v
	c.L, c.E = nil, nil
	for _, part := range v.L {
		c.L = append(c.L, bare(part))
	}
	for _, e := range v.E {
		c.E = append(c.E, entry(e.Key, bare(e.V)))
	}
	return c
}

// maker of values; the same ones in each run.
type maker struct{ *rand.Rand }

func newMaker(seed uint64) maker { return maker{rand.New(rand.NewPCG(12, seed))} }

func pick[T any](m maker, l []T) T { return l[m.IntN(len(l))] }

// keys by rising bytes: bare ones, words that stand for values, and what would be read as something else without quotes.
func keys() []string {
	l := []string{"", "a", "A", "b", "ab", "a b", "a-b", "a.b", "a:", "_", "-", "a1", "1", "-1", "1.5", "null", "true", "false", "nan", "inf", "-inf", "Null", "é", "€", "\"", "\\", "a\n", "\t", "\x00", "\x7f", ",", "[]", "# a", "/*", "\U0010ffff", strings.Repeat("k", 100), strings.Repeat("€", 33)}
	slices.Sort(l)
	return l
}

func texts() []string {
	return append(keys(), "a, b", "{a: 1}", "\n  ", "a,\n]", "\r\n", "/* */", "a\u0300", "\x1f\x7f\u0080", strings.Repeat("k", 101), strings.Repeat("\x01", 700))
}

func fractions() []uint64 {
	return []uint64{0, 1, 1 << 51, 1 << 52, 1023 << 52, 1023<<52 | 1, 1024 << 52, 2046<<52 | (1<<52 - 1), 2047 << 52, 0x7ff8000000000001, 1 << 63, 1<<63 | 1, 1<<63 | 1023<<52, 1<<63 | 2047<<52, math.Float64bits(0.1), math.Float64bits(-2.5), math.Float64bits(1e22), math.Float64bits(1e-7)}
}

func wholes() []int64 {
	return []int64{0, 1, -1, 10, 255, -256, 1 << 32, math.MaxInt64, math.MinInt64}
}

// good value, at most so deep.
func (m maker) good(deep int) api.Value {
	kind := m.IntN(5)
	if deep > 1 && m.IntN(3) > 0 {
		kind = api.VList + m.IntN(2)
	}
	switch kind {
	case api.VBool:
		return boolean(m.Int64N(2))
	case api.VInt:
		return whole(pick(m, append(wholes(), int64(m.Uint64()))))
	case api.VFloat:
		return fraction(pick(m, append(fractions(), math.Float64bits(m.NormFloat64()))))
	case api.VText:
		return text(pick(m, texts()))
	case api.VList:
		v := list()
		for range m.IntN(4) {
			v.L = append(v.L, m.good(deep-1))
		}
		return v
	case api.VTable:
		v := table()
		keys, count := keys(), m.IntN(5)
		for _, key := range keys {
			if m.IntN(len(keys)) < count {
				v.E = append(v.E, entry(key, m.good(deep-1)))
			}
		}
		return v
	}
	return null()
}

// partOf a value: itself, or one of its parts, or of theirs, and so on.
func (m maker) partOf(v *api.Value) *api.Value {
	parts := []*api.Value{}
	for i := range v.L {
		parts = append(parts, &v.L[i])
	}
	for i := range v.E {
		parts = append(parts, &v.E[i].V)
	}
	if len(parts) == 0 || m.IntN(3) == 0 {
		return v
	}
	return m.partOf(pick(m, parts))
}

// spoil a value: mostly it is not good any more.
func (m maker) spoil(v *api.Value) {
	p := m.partOf(v)
	switch m.IntN(9) {
	case 0:
		p.Kind = m.IntN(10) - 1
	case 1:
		*p = fraction(pick(m, []uint64{2047<<52 | 1, 1<<63 | 2047<<52 | 1, 0x7ff8000000000000, 0xfff8000000000001, math.MaxUint64}))
	case 2:
		*p = text(pick(m, []string{"\xff", "a\xc3", "\xed\xa0\x80", strings.Repeat("a", 4000), strings.Repeat("a", 4001), strings.Repeat("\xff", 4001)}))
	case 3:
		key := pick(m, append(texts(), "\xff", strings.Repeat("\xff", 101)))
		*p = table(append(p.E, entry(key, m.good(2)))...)
	case 4:
		*p = list(append(many(196+m.IntN(8), null()).L, p.L...)...)
	case 5:
		*p = linedUp(1980 + m.IntN(40))
	case 6:
		*p = nested(15+m.IntN(7), *p)
	case 7:
		slices.Reverse(p.E)
	case 8:
		p.N = m.Int64N(4)
	}
}

// eachOf so many nodes: lists, tables of bare keys and others, and leaves that could be taken for marks and lines.
func eachOf(nodes int) []api.Value {
	if nodes == 1 {
		return []api.Value{null(), text("],\n{"), list(), table()}
	}
	var l []api.Value
	for _, row := range rowsOf(nodes - 1) {
		v := table()
		for i, part := range row {
			v.E = append(v.E, entry([]string{"a", "b: ", "null", "z"}[i], part))
		}
		l = append(l, list(row...), v)
	}
	return l
}

// rowsOf values that have so many nodes in all.
func rowsOf(nodes int) [][]api.Value {
	if nodes == 0 {
		return [][]api.Value{nil}
	}
	var l [][]api.Value
	for n := 1; n <= nodes; n++ {
		for _, first := range eachOf(n) {
			for _, others := range rowsOf(nodes - n) {
				l = append(l, append([]api.Value{first}, others...))
			}
		}
	}
	return l
}
