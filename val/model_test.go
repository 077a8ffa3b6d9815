package val_test

import (
	"bytes"
	"encoding/binary"
	"math"
	"math/rand/v2"
	"reflect"
	"strings"
	"unicode/utf8"

	"typecase/api"
)

// The reference of these tests: each promise's words, with calls within calls, and with the library's runes and fractions.

func null() api.Value { return api.Value{} }

func boolean(n int64) api.Value { return api.Value{Kind: api.VBool, N: n} }

func whole(n int64) api.Value { return api.Value{Kind: api.VInt, N: n} }

func fraction(bits uint64) api.Value { return api.Value{Kind: api.VFloat, F: bits} }

func text(s string) api.Value { return api.Value{Kind: api.VText, S: s} }

func list(l ...api.Value) api.Value { return api.Value{Kind: api.VList, L: l} }

func table(l ...api.Entry) api.Value { return api.Value{Kind: api.VTable, E: l} }

func entry(key string, v api.Value) api.Entry { return api.Entry{Key: key, V: v} }

// nested: a value with so many lists around it.
func nested(lists int, v api.Value) api.Value {
	for range lists {
		v = list(v)
	}
	return v
}

// noughts: a list of so many times nothing.
func noughts(count int) api.Value { return list(make([]api.Value, count)...) }

// linedUp: a list of lists with so many nodes in all.
func linedUp(nodes int) api.Value {
	v := list()
	for nodes--; nodes > 0; {
		n := min(nodes, 199)
		v.L = append(v.L, noughts(n-1))
		nodes -= n
	}
	return v
}

// met: a value as one meets it, with how many are above it.
type met struct {
	v     api.Value
	above int
}

// modelWalk by P91's first words: the value itself, then part by part.
func modelWalk(v api.Value) []met {
	var l []met
	var meet func(v api.Value, above int)
	meet = func(v api.Value, above int) {
		l = append(l, met{v, above})
		for _, part := range v.L {
			meet(part, above+1)
		}
		for _, e := range v.E {
			meet(e.V, above+1)
		}
	}
	meet(v, 0)
	return l
}

// modelCheck by P91's words.
func modelCheck(v api.Value) api.Errno {
	for i, m := range modelWalk(v) {
		switch {
		case i+1 >= 2001:
			return api.ErrLarge
		case m.above >= 20:
			return api.ErrDeep
		case !modelOfKind(m.v):
			return api.ErrKind
		case len(m.v.S) > 4000 || len(m.v.L) > 200 || len(m.v.E) > 200:
			return api.ErrLarge
		case !utf8.ValidString(m.v.S):
			return api.ErrText
		}
		ahead := []string(nil)
		for _, e := range m.v.E {
			switch {
			case len(e.Key) > 100:
				return api.ErrLarge
			case !utf8.ValidString(e.Key):
				return api.ErrText
			case len(ahead) > 0 && bytes.Compare([]byte(e.Key), []byte(ahead[len(ahead)-1])) <= 0:
				return api.ErrOrder
			}
			ahead = append(ahead, e.Key)
		}
	}
	return api.OK
}

// modelOfKind: which fields are not zero, as letters, and which a Kind names.
func modelOfKind(v api.Value) bool {
	if v.Kind < 0 || v.Kind > 6 {
		return false
	}
	fields := ""
	for _, f := range []struct {
		letter string
		is     bool
	}{{"N", v.N != 0}, {"F", v.F != 0}, {"S", v.S != ""}, {"L", len(v.L) > 0}, {"E", len(v.E) > 0}} {
		if f.is {
			fields += f.letter
		}
	}
	if fields != "" && fields != []string{"", "N", "N", "F", "S", "L", "E"}[v.Kind] {
		return false
	}
	if v.Kind == api.VBool && v.N != 0 && v.N != 1 {
		return false
	}
	return !math.IsNaN(math.Float64frombits(v.F)) || v.F == 0x7ff8000000000001
}

// modelCompare by P92's words.
func modelCompare(a, b api.Value) int {
	switch {
	case a.Kind != b.Kind:
		return sign(a.Kind > b.Kind)
	case a.N != b.N:
		return sign(a.N > b.N)
	case a.F != b.F:
		return modelFractions(a.F, b.F)
	case a.S != b.S:
		return bytes.Compare([]byte(a.S), []byte(b.S))
	}
	for i := 0; i < len(a.L) || i < len(b.L); i++ {
		if i >= len(a.L) || i >= len(b.L) {
			return sign(i >= len(b.L))
		}
		if c := modelCompare(a.L[i], b.L[i]); c != 0 {
			return c
		}
	}
	for i := 0; i < len(a.E) || i < len(b.E); i++ {
		if i >= len(a.E) || i >= len(b.E) {
			return sign(i >= len(b.E))
		}
		if c := strings.Compare(a.E[i].Key, b.E[i].Key); c != 0 {
			return c
		}
		if c := modelCompare(a.E[i].V, b.E[i].V); c != 0 {
			return c
		}
	}
	return 0
}

// modelFractions of two that are not the same.
func modelFractions(a, b uint64) int {
	if below := a >= 1<<63; below != (b >= 1<<63) {
		return sign(!below)
	} else if below {
		return sign(a < b)
	}
	return sign(a > b)
}

func sign(above bool) int {
	if above {
		return 1
	}
	return -1
}

// rising bytes of a good value: of two, those of the lower one are below. They are what a later chapter makes of values, and so an order that is written down a second time.
func rising(v api.Value) []byte {
	b := []byte{byte(v.Kind)}
	switch v.Kind {
	case api.VBool:
		b = append(b, byte(v.N))
	case api.VInt:
		b = binary.BigEndian.AppendUint64(b, uint64(v.N)+1<<63)
	case api.VFloat:
		turned := v.F ^ 1<<63
		if v.F >= 1<<63 {
			turned = v.F ^ math.MaxUint64
		}
		b = binary.BigEndian.AppendUint64(b, turned)
	case api.VText:
		b = append(b, risingText(v.S)...)
	case api.VList:
		for _, part := range v.L {
			b = append(append(b, 1), rising(part)...)
		}
		b = append(b, 0)
	case api.VTable:
		for _, e := range v.E {
			b = append(append(b, 1), risingText(e.Key)...)
			b = append(b, rising(e.V)...)
		}
		b = append(b, 0)
	}
	return b
}

func risingText(s string) string { return strings.ReplaceAll(s, "\x00", "\x00\xff") + "\x00\x00" }

// modelPut by P93's words.
func modelPut(l []api.Entry, key string, v api.Value) []api.Entry {
	var made []api.Entry
	isPut := false
	for _, e := range modelDrop(l, key) {
		if !isPut && e.Key > key {
			made = append(made, entry(key, v))
			isPut = true
		}
		made = append(made, e)
	}
	if !isPut {
		made = append(made, entry(key, v))
	}
	return made
}

// modelDrop by P93's words.
func modelDrop(l []api.Entry, key string) []api.Entry {
	var made []api.Entry
	for _, e := range l {
		if e.Key != key {
			made = append(made, e)
		}
	}
	return made
}

// same values, whether lists that have nothing in them are nil or empty?
func same(a, b api.Value) bool { return reflect.DeepEqual(bare(a), bare(b)) }

func sameEntries(a, b []api.Entry) bool { return same(table(a...), table(b...)) }

// bare copy of a value: nil for each list that has nothing in it.
func bare(v api.Value) api.Value {
	c := v
	c.L, c.E = nil, nil
	for _, part := range v.L {
		c.L = append(c.L, bare(part))
	}
	for _, e := range v.E {
		c.E = append(c.E, entry(e.Key, bare(e.V)))
	}
	return c
}

// scribble over all of a value's memory, the room behind its lists included.
func scribble(v *api.Value) {
	for i := range v.L[:cap(v.L)] {
		scribble(&v.L[:cap(v.L)][i])
	}
	scribbleEntries(v.E)
	*v = api.Value{Kind: -7, N: 7, F: 7, S: "scribble"}
}

func scribbleEntries(l []api.Entry) {
	for i := range l[:cap(l)] {
		e := &l[:cap(l)][i]
		scribble(&e.V)
		e.Key = "scribble"
	}
}

// maker of values; the same ones in each run.
type maker struct{ *rand.Rand }

func newMaker(seed uint64) maker { return maker{rand.New(rand.NewPCG(9, seed))} }

func texts() []string {
	return []string{"", "a", "b", "ab", "a\x00", "a\x00b", "\x00", "a\x01", "é", "€", "\U0010ffff", "z"}
}

func fractions() []uint64 {
	return []uint64{0, 1, 1 << 51, 1 << 52, 1023 << 52, 1023<<52 | 1, 1024 << 52, 2046<<52 | (1<<52 - 1), 2047 << 52, 0x7ff8000000000001, 1 << 63, 1<<63 | 1, 1<<63 | 1023<<52, 1<<63 | 2047<<52, math.Float64bits(0.1), math.Float64bits(-2.5)}
}

func wholes() []int64 {
	return []int64{0, 1, -1, 2, 255, 256, math.MaxInt64, math.MinInt64, math.MinInt32}
}

func pick[T any](m maker, l []T) T { return l[m.IntN(len(l))] }

// good value, at most so deep.
func (m maker) good(deep int) api.Value {
	kind := m.IntN(7)
	if deep <= 1 {
		kind = m.IntN(5)
	}
	switch kind {
	case api.VBool:
		return boolean(m.Int64N(2))
	case api.VInt:
		return whole(pick(m, wholes()))
	case api.VFloat:
		return fraction(pick(m, fractions()))
	case api.VText:
		return text(pick(m, texts()))
	case api.VList:
		v := list()
		for range m.IntN(4) {
			v.L = append(v.L, m.good(deep-1))
		}
		return v
	case api.VTable:
		v := table()
		for range m.IntN(4) {
			v.E = modelPut(v.E, pick(m, texts()), m.good(deep-1))
		}
		return v
	}
	return null()
}

// partOf a value: itself, or one of its parts, or of theirs, and so on.
func (m maker) partOf(v *api.Value) *api.Value {
	parts := []*api.Value{}
	for i := range v.L {
		parts = append(parts, &v.L[i])
	}
	for i := range v.E {
		parts = append(parts, &v.E[i].V)
	}
	if len(parts) == 0 || m.IntN(3) == 0 {
		return v
	}
	return m.partOf(pick(m, parts))
}

// spoil a value: something of it is not as it was, and mostly no good value has it so.
func (m maker) spoil(v *api.Value) {
	p := m.partOf(v)
	switch m.IntN(12) {
	case 0:
		p.Kind = m.IntN(10) - 2
	case 1:
		p.N = m.Int64N(4) - 1
	case 2:
		p.F = pick(m, []uint64{2047<<52 | 1, 1<<63 | 2047<<52 | 1, 0x7ff8000000000000, 0x7ff8000000000001, 0xfff8000000000001, math.MaxUint64, 0, 1})
	case 3:
		p.S = pick(m, []string{"\xff", "a\xc3", "x", strings.Repeat("a", 4000), strings.Repeat("é", 2001), strings.Repeat("\xff", 4001)})
	case 4:
		p.L = append(p.L, m.good(2))
	case 5:
		p.E = append(p.E, entry(pick(m, texts()), m.good(2)))
	case 6:
		*p = text(pick(m, []string{"\xff", "\xed\xa0\x80", strings.Repeat("a", 4001)}))
	case 7:
		p.E = append(p.E, entry(pick(m, []string{"\xff", strings.Repeat("k", 100), strings.Repeat("k", 101), strings.Repeat("\xff", 101)}), m.good(2)))
		p.Kind, p.N, p.F, p.S, p.L = api.VTable, 0, 0, "", nil
	case 8:
		*p = noughts(199 + m.IntN(4))
	case 9:
		*p = linedUp(1980 + m.IntN(40))
	case 10:
		*p = nested(15+m.IntN(7), *p)
	case 11:
		if len(p.E) > 1 {
			i, k := m.IntN(len(p.E)), m.IntN(len(p.E))
			p.E[i].Key = p.E[k].Key
		}
	}
}
