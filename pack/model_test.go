package pack_test

import (
	"math"
	"math/big"
	"math/rand/v2"
	"reflect"
	"strings"

	"typecase/api"
)

// The reference of these tests: the document's words, one after the other, for values good or not.

func null() api.Value { return api.Value{} }

func boolean(n int64) api.Value { return api.Value{Kind: api.VBool, N: n} }

func whole(n int64) api.Value { return api.Value{Kind: api.VInt, N: n} }

func fraction(bits uint64) api.Value { return api.Value{Kind: api.VFloat, F: bits} }

func number(f float64) api.Value { return fraction(math.Float64bits(f)) }

func text(s string) api.Value { return api.Value{Kind: api.VText, S: s} }

func list(l ...api.Value) api.Value { return api.Value{Kind: api.VList, L: l} }

func table(l ...api.Entry) api.Value { return api.Value{Kind: api.VTable, E: l} }

func entry(key string, v api.Value) api.Entry { return api.Entry{Key: key, V: v} }

// nested: a value with so many lists around it.
func nested(lists int, v api.Value) api.Value {
	for range lists {
		v = list(v)
	}
	return v
}

// noughts: a list of so many times nothing.
func noughts(count int) api.Value { return list(make([]api.Value, count)...) }

// linedUp: a list of lists with so many nodes in all.
func linedUp(nodes int) api.Value {
	v := list()
	for nodes--; nodes > 0; {
		n := min(nodes, 199)
		v.L = append(v.L, noughts(n-1))
		nodes -= n
	}
	return v
}

// modelPack by P100's words, of any value of these Kinds and just their fields; N of VBool is one byte.
func modelPack(v api.Value) string {
	var b strings.Builder
	modelWrite(&b, v)
	return b.String()
}

func modelWrite(b *strings.Builder, v api.Value) {
	b.WriteString([]string{"\x01", "\x02", "\x03", "\x04", "\x05", "\x06", "\x07"}[v.Kind])
	switch v.Kind {
	case api.VBool:
		b.WriteByte(byte(v.N))
	case api.VInt:
		b.WriteString(modelEight(new(big.Int).Add(big.NewInt(v.N), new(big.Int).Lsh(big.NewInt(1), 63))))
	case api.VFloat:
		turned := v.F + 1<<63
		if v.F>>63 == 1 {
			turned = math.MaxUint64 - v.F
		}
		b.WriteString(modelEight(new(big.Int).SetUint64(turned)))
	case api.VText:
		b.WriteString(modelChain(v.S))
	case api.VList:
		for _, part := range v.L {
			b.WriteByte(1)
			modelWrite(b, part)
		}
		b.WriteByte(0)
	case api.VTable:
		for _, e := range v.E {
			b.WriteByte(1)
			b.WriteString(modelChain(e.Key))
			modelWrite(b, e.V)
		}
		b.WriteByte(0)
	}
}

func modelEight(n *big.Int) string { return string(n.FillBytes(make([]byte, 8))) }

func modelChain(s string) string {
	return strings.Join(strings.Split(s, "\x00"), "\x00\xff") + "\x00\x00"
}

// packed: a text, and the value of which the rules make it.
type packed struct {
	bytes string
	v     api.Value
}

// counter of all that the rules make, by how long it is, where the bytes of texts and bools are of these signs, and there are no numbers: these take nine bytes.
type counter struct{ signs string }

// values whose bytes are just so many.
func (c counter) values(length int) []packed {
	if length == 1 {
		return []packed{{"\x01", null()}}
	}
	var l []packed
	for i := range len(c.signs) {
		if length == 2 {
			l = append(l, packed{"\x02" + c.signs[i:i+1], boolean(int64(c.signs[i]))})
		}
	}
	for _, s := range c.texts(length - 3) {
		l = append(l, packed{"\x05" + s.bytes + "\x00\x00", s.v})
	}
	for _, p := range c.lists(length - 2) {
		l = append(l, packed{"\x06" + p.bytes + "\x00", p.v})
	}
	for _, p := range c.tables(length - 2) {
		l = append(l, packed{"\x07" + p.bytes + "\x00", p.v})
	}
	return l
}

// texts whose chains, without the end, are of just so many bytes.
func (c counter) texts(length int) []packed {
	if length == 0 {
		return []packed{{"", text("")}}
	}
	var l []packed
	for i := range len(c.signs) {
		sign, told := c.signs[i:i+1], c.signs[i:i+1]
		if sign == "\x00" {
			told = "\x00\xff"
		}
		if len(told) <= length {
			for _, p := range c.texts(length - len(told)) {
				l = append(l, packed{told + p.bytes, text(sign + p.v.S)})
			}
		}
	}
	return l
}

// lists whose elements are of just so many bytes.
func (c counter) lists(length int) []packed {
	if length == 0 {
		return []packed{{"", list()}}
	}
	var l []packed
	for n := 1; n < length; n++ {
		for _, first := range c.values(n) {
			for _, others := range c.lists(length - 1 - n) {
				l = append(l, packed{"\x01" + first.bytes + others.bytes, list(append([]api.Value{first.v}, others.v.L...)...)})
			}
		}
	}
	return l
}

// tables whose entries are of just so many bytes.
func (c counter) tables(length int) []packed {
	if length == 0 {
		return []packed{{"", table()}}
	}
	var l []packed
	for k := range max(0, length-3) {
		for n := 1; k+n+3 <= length; n++ {
			for _, key := range c.texts(k) {
				for _, first := range c.values(n) {
					for _, others := range c.tables(length - 3 - k - n) {
						l = append(l, packed{"\x01" + key.bytes + "\x00\x00" + first.bytes + others.bytes, table(append([]api.Entry{entry(key.v.S, first.v)}, others.v.E...)...)})
					}
				}
			}
		}
	}
	return l
}

// modelUnpack what stands at the front: the value, and what is behind it; or not, if it is none.
func modelUnpack(s string, within int) (v api.Value, behind string, ok bool) {
	if s == "" || s[0] < 1 || s[0] > 7 || within > 1000 {
		return v, "", false
	}
	v.Kind, s = int(s[0]-1), s[1:]
	switch v.Kind {
	case api.VNull:
		return v, s, true
	case api.VBool:
		if s == "" {
			return v, "", false
		}
		v.N = int64(s[0])
		return v, s[1:], true
	case api.VInt, api.VFloat:
		if len(s) < 8 {
			return v, "", false
		}
		return modelNumber(v.Kind, new(big.Int).SetBytes([]byte(s[:8]))), s[8:], true
	case api.VText:
		v.S, s, ok = modelUnchain(s)
		return v, s, ok
	}
	for strings.HasPrefix(s, "\x01") {
		key, isKey := "", true
		s = s[1:]
		if v.Kind == api.VTable {
			key, s, isKey = modelUnchain(s)
		}
		part, behind, isPart := modelUnpack(s, within+1)
		if !isKey || !isPart {
			return v, "", false
		}
		if s = behind; v.Kind == api.VTable {
			v.E = append(v.E, entry(key, part))
		} else {
			v.L = append(v.L, part)
		}
	}
	if !strings.HasPrefix(s, "\x00") {
		return v, "", false
	}
	return v, s[1:], true
}

func modelNumber(kind int, n *big.Int) api.Value {
	if kind == api.VInt {
		return whole(new(big.Int).Sub(n, new(big.Int).Lsh(big.NewInt(1), 63)).Int64())
	}
	if turned := n.Uint64(); turned >= 1<<63 {
		return fraction(turned - 1<<63)
	}
	return fraction(math.MaxUint64 - n.Uint64())
}

func modelUnchain(s string) (text, behind string, ok bool) {
	at := strings.IndexByte(s, 0)
	if at < 0 || at+1 == len(s) {
		return "", "", false
	}
	switch s[at+1] {
	case 0:
		return s[:at], s[at+2:], true
	case 255:
		others, behind, ok := modelUnchain(s[at+2:])
		return s[:at+1] + others, behind, ok
	}
	return "", "", false
}

// same values, whether lists that have nothing in them are nil or empty?
func same(a, b api.Value) bool { return reflect.DeepEqual(bare(a), bare(b)) }

// bare copy of a value: nil for each list that has nothing in it.
func bare(v api.Value) api.Value {
	c := v
	c.L, c.E = nil, nil
	for _, part := range v.L {
		c.L = append(c.L, bare(part))
	}
	for _, e := range v.E {
		c.E = append(c.E, entry(e.Key, bare(e.V)))
	}
	return c
}

// scribble over all of a value's memory, the room behind its lists included.
func scribble(v *api.Value) {
	for i := range v.L[:cap(v.L)] {
		scribble(&v.L[:cap(v.L)][i])
	}
	for i := range v.E[:cap(v.E)] {
		e := &v.E[:cap(v.E)][i]
		scribble(&e.V)
		e.Key = "scribble"
	}
	*v = api.Value{Kind: -7, N: 7, F: 7, S: "scribble"}
}

// maker of values; the same ones in each run.
type maker struct{ *rand.Rand }

func newMaker(seed uint64) maker { return maker{rand.New(rand.NewPCG(10, seed))} }

func texts() []string {
	return []string{"", "a", "b", "ab", "a\x00", "a\x00b", "\x00", "\x00\x00", "\x00\x01", "a\x01", "\x01", "é", "ÿ", "€", "\U0010ffff", "z"}
}

func fractions() []uint64 {
	return []uint64{0, 1, 1 << 51, 1 << 52, 1023 << 52, 1023<<52 | 1, 1024 << 52, 2046<<52 | (1<<52 - 1), 2047 << 52, 0x7ff8000000000001, 1 << 63, 1<<63 | 1, 1<<63 | 1023<<52, 1<<63 | 2047<<52, math.Float64bits(0.1), math.Float64bits(-2.5)}
}

func wholes() []int64 {
	return []int64{0, 1, -1, 2, 255, 256, -256, 1 << 32, math.MaxInt64, math.MinInt64, math.MinInt32}
}

func pick[T any](m maker, l []T) T { return l[m.IntN(len(l))] }

// good value, at most so deep.
func (m maker) good(deep int) api.Value {
	kind := m.IntN(5)
	if deep > 1 && m.IntN(3) > 0 {
		kind = api.VList + m.IntN(2)
	}
	switch kind {
	case api.VBool:
		return boolean(m.Int64N(2))
	case api.VInt:
		return whole(pick(m, append(wholes(), int64(m.Uint64()))))
	case api.VFloat:
		return fraction(pick(m, fractions()))
	case api.VText:
		return text(pick(m, texts()))
	case api.VList:
		v := list()
		for range m.IntN(4) {
			v.L = append(v.L, m.good(deep-1))
		}
		return v
	case api.VTable:
		v := table()
		for _, key := range texts()[:5] {
			if m.IntN(3) == 0 {
				v.E = append(v.E, entry(key, m.good(deep-1)))
			}
		}
		for i := range v.E {
			for k := range i {
				if v.E[k].Key > v.E[i].Key {
					v.E[k], v.E[i] = v.E[i], v.E[k]
				}
			}
		}
		return v
	}
	return null()
}

// partOf a value: itself, or one of its parts, or of theirs, and so on.
func (m maker) partOf(v *api.Value) *api.Value {
	parts := []*api.Value{}
	for i := range v.L {
		parts = append(parts, &v.L[i])
	}
	for i := range v.E {
		parts = append(parts, &v.E[i].V)
	}
	if len(parts) == 0 || m.IntN(3) == 0 {
		return v
	}
	return m.partOf(pick(m, parts))
}

// spoil a value: mostly it is not good any more, but it has just the fields of its Kinds, and N of VBool is one byte.
func (m maker) spoil(v *api.Value) {
	p := m.partOf(v)
	switch m.IntN(8) {
	case 0:
		*p = boolean(m.Int64N(256))
	case 1:
		*p = fraction(pick(m, []uint64{2047<<52 | 1, 1<<63 | 2047<<52 | 1, 0x7ff8000000000000, 0xfff8000000000001, math.MaxUint64}))
	case 2:
		*p = text(pick(m, []string{"\xff", "\xff\x00", "\x00\xff", "\xed\xa0\x80", strings.Repeat("a", 4001), strings.Repeat("\x00", 4000), strings.Repeat("\xff", 4001)}))
	case 3:
		key := pick(m, append(texts(), "\xff", strings.Repeat("\x00", 100), strings.Repeat("k", 101), strings.Repeat("\xff", 101)))
		*p = table(append(p.E, entry(key, m.good(2)))...)
	case 4:
		*p = list(append(noughts(196+m.IntN(8)).L, p.L...)...)
	case 5:
		*p = linedUp(1980 + m.IntN(40))
	case 6:
		*p = nested(15+m.IntN(7), *p)
	case 7:
		if len(p.E) > 1 {
			p.E[m.IntN(len(p.E))].Key = p.E[m.IntN(len(p.E))].Key
		}
	}
}
