package mean_test

import (
	"fmt"
	"math"
	"math/big"
	"math/rand/v2"
	"reflect"
	"regexp"
	"slices"
	"strconv"
	"strings"

	"typecase/api"
	"typecase/esc"
	"typecase/tok"
	"typecase/tree"
	"typecase/val"
)

// The reference of these tests: the document's words, by other means than the program's.

func null() api.Value { return api.Value{} }

func boolean(n int64) api.Value { return api.Value{Kind: api.VBool, N: n} }

func whole(n int64) api.Value { return api.Value{Kind: api.VInt, N: n} }

func fraction(bits uint64) api.Value { return api.Value{Kind: api.VFloat, F: bits} }

func number(f float64) api.Value { return fraction(math.Float64bits(f)) }

func text(s string) api.Value { return api.Value{Kind: api.VText, S: s} }

func list(l ...api.Value) api.Value { return api.Value{Kind: api.VList, L: l} }

func table(l ...api.Entry) api.Value { return api.Value{Kind: api.VTable, E: l} }

func entry(key string, v api.Value) api.Entry { return api.Entry{Key: key, V: v} }

// same values, whether lists that have nothing in them are nil or empty?
func same(a, b api.Value) bool {
	alone := func(v api.Value) api.Value {
		v.L, v.E = nil, nil
		return v
	}
	return reflect.DeepEqual(alone(a), alone(b)) && slices.EqualFunc(a.L, b.L, same) &&
		slices.EqualFunc(a.E, b.E, func(x, y api.Entry) bool { return x.Key == y.Key && same(x.V, y.V) })
}

// What numerals and fractions look like, by P50 and P44.
var (
	wholeForm    = regexp.MustCompile(`^-?(0|[1-9](_?[0-9])*|0x[0-9a-fA-F](_?[0-9a-fA-F])*|0o[0-7](_?[0-7])*|0b[01](_?[01])*)$`)
	fractionForm = regexp.MustCompile(`^-?(0|[1-9][0-9]*)(\.[0-9]+|e[-+]?[0-9]+|\.[0-9]+e[-+]?[0-9]+)$`)
)

// modelWord by P110's words.
func modelWord(s string) (api.Value, api.Errno) {
	if v, ok := map[string]api.Value{"null": null(), "true": boolean(1), "false": boolean(0)}[s]; ok {
		return v, api.OK
	}
	if len(s) > 80 {
		return null(), api.ErrLarge
	}
	if wholeForm.MatchString(s) {
		n, _ := new(big.Int).SetString(strings.ReplaceAll(s, "_", ""), 0)
		if !n.IsInt64() {
			return null(), api.ErrRange
		}
		return whole(n.Int64()), api.OK
	}
	if v, ok := map[string]api.Value{"nan": fraction(0x7ff8000000000001), "inf": number(math.Inf(1)), "-inf": number(math.Inf(-1))}[s]; ok {
		return v, api.OK
	}
	if !fractionForm.MatchString(s) {
		return null(), api.ErrForm
	}
	f, err := strconv.ParseFloat(s, 64)
	if err != nil {
		return null(), api.ErrRange
	}
	return number(f), api.OK
}

// part of a document: a token that is solid.
type part struct {
	kind, at int
	s        string
}

func partsOf(s string) []part {
	var l []part
	tokens, _ := tok.Cut(s)
	for _, c := range tokens {
		if tok.Solid(c.Kind) {
			l = append(l, part{c.Kind, c.At, s[c.At:c.End]})
		}
	}
	return l
}

// opened: a list or a table whose end has not been come to.
type opened struct {
	v   api.Value
	key string
}

// modelMean by P111's words: flat, over the tokens; whether one is a key is told by what stands behind it.
func modelMean(s string) (api.Value, int, api.Errno) {
	if _, at, e := tree.Parse(s); e != api.OK {
		return null(), at, e
	}
	stack := []opened{{v: list()}}
	add := func(v api.Value) {
		top := &stack[len(stack)-1]
		if top.v.Kind == api.VList {
			top.v.L = append(top.v.L, v)
		} else {
			top.v.E = append(top.v.E, entry(top.key, v))
		}
	}
	parts := append(partsOf(s), part{})
	for i, p := range parts[:len(parts)-1] {
		top := &stack[len(stack)-1]
		switch {
		case p.s == "[":
			stack = append(stack, opened{v: list()})
		case p.s == "{":
			stack = append(stack, opened{v: table()})
		case p.s == "]", p.s == "}":
			stack = stack[:len(stack)-1]
			add(rising(top.v))
		case p.s == ",", p.s == ":", p.s == "=":
		case parts[i+1].s == ":", parts[i+1].s == "=":
			key, e := modelKey(p)
			if e == api.OK && slices.ContainsFunc(top.v.E, func(e api.Entry) bool { return e.Key == key }) {
				e = api.ErrTwice
			}
			if e != api.OK {
				return null(), p.at, e
			}
			top.key = key
		default:
			v, e := modelLeaf(p)
			if e != api.OK {
				return null(), p.at, e
			}
			add(v)
		}
	}
	v := stack[0].v.L[0]
	if e := val.Check(v); e != api.OK {
		return null(), 0, e
	}
	return v, 0, api.OK
}

func modelLeaf(p part) (api.Value, api.Errno) {
	if p.kind == api.KWord {
		return modelWord(p.s)
	}
	s, _, e := esc.Unquote(p.s)
	if e != api.OK {
		return null(), e
	}
	return text(s), api.OK
}

var bareForm = regexp.MustCompile(`^[a-zA-Z_][a-zA-Z0-9_-]{0,99}$`)

func modelKey(p part) (string, api.Errno) {
	if p.kind == api.KText {
		s, _, e := esc.Unquote(p.s)
		return s, e
	}
	if !bareForm.MatchString(p.s) || slices.Contains([]string{"null", "true", "false", "nan", "inf"}, p.s) {
		return "", api.ErrForm
	}
	return p.s, api.OK
}

// rising: the same value, its own entries by rising keys.
func rising(v api.Value) api.Value {
	for i := range v.E {
		for k := range i {
			if v.E[k].Key > v.E[i].Key {
				v.E[k], v.E[i] = v.E[i], v.E[k]
			}
		}
	}
	return v
}

// What a piece of a written document is.
const (
	otherPiece = iota
	leafPiece
	keyPiece
)

// piece of a written document; of a key, which ones stand ahead in its table.
type piece struct {
	kind  int
	s     string
	ahead []string
}

// sourceOf all pieces; and where each of them begins.
func sourceOf(l []piece) (string, []int) {
	var b strings.Builder
	var places []int
	for _, p := range l {
		places = append(places, b.Len())
		b.WriteString(p.s)
	}
	return b.String(), places
}

// writer of good values, each in one of the ways in which it may stand in a document; the same ones in each run.
type writer struct {
	*rand.Rand
	pieces []piece
}

func newWriter(seed uint64) *writer {
	return &writer{Rand: rand.New(rand.NewPCG(11, seed))}
}

func pick[T any](w *writer, l ...T) T { return l[w.IntN(len(l))] }

// document of a value that is made on the way: its pieces, and the value.
func (w *writer) document(deep int) ([]piece, api.Value) {
	w.pieces = nil
	w.gap()
	v := w.value(deep)
	w.gap()
	return w.pieces, v
}

func (w *writer) put(kind int, s string, ahead ...string) {
	w.pieces = append(w.pieces, piece{kind, s, slices.Clone(ahead)})
}

// gap of what means nothing.
func (w *writer) gap() {
	for range w.IntN(3) {
		w.put(otherPiece, pick(w, " ", "\n", "\t", "\r\n", "/* } \" 1 */", "/**/", "# a: 1, ]\n", "  "))
	}
}

// value with at most so many tables and lists in one another.
func (w *writer) value(deep int) api.Value {
	if deep > 0 && w.IntN(3) > 0 {
		if w.IntN(2) == 0 {
			return w.list(deep - 1)
		}
		return w.table(deep - 1)
	}
	s, v := w.leaf()
	w.put(leafPiece, s)
	return v
}

func (w *writer) list(deep int) api.Value {
	v := list()
	w.between("[", "]", w.IntN(5), func() { v.L = append(v.L, w.value(deep)) })
	return v
}

func (w *writer) table(deep int) api.Value {
	v := table()
	keys := keys()
	w.Shuffle(len(keys), func(i, k int) { keys[i], keys[k] = keys[k], keys[i] })
	count := w.IntN(6)
	w.between("{", "}", count, func() {
		i := len(v.E)
		w.put(keyPiece, w.key(keys[i]), keys[:i]...)
		w.gap()
		w.put(otherPiece, pick(w, ":", "="))
		w.gap()
		v.E = append(v.E, entry(keys[i], w.value(deep)))
	})
	return rising(v)
}

// between two marks, so often what write writes.
func (w *writer) between(first, last string, count int, write func()) {
	w.put(otherPiece, first)
	w.gap()
	for i := range count {
		write()
		w.gap()
		if i < count-1 || w.IntN(2) == 0 {
			w.put(otherPiece, ",")
			w.gap()
		}
	}
	w.put(otherPiece, last)
}

func keys() []string {
	return []string{"", "a", "A", "b", "ab", "a b", "a-b", "a.b", "_", "a1", "1", "-1", "null", "nan", "inf", "true", "é", "\"", "\\", "a\n", "\x00", "\U0010ffff", strings.Repeat("k", 100), strings.Repeat("€", 33)}
}

func texts() []string {
	return append(keys(), "{}", "# a", "/* */", "a, b: [1]", "a\tb\rc\x7f", "//", "a\u0300", strings.Repeat("x", 300))
}

// key in one of the ways in which it may be written.
func (w *writer) key(s string) string {
	if bareForm.MatchString(s) && !slices.Contains([]string{"null", "true", "nan", "inf"}, s) && w.IntN(2) == 0 {
		return s
	}
	return w.quoted(s)
}

// quoted text, some of its scalars escaped that need not be.
func (w *writer) quoted(s string) string {
	var b strings.Builder
	for _, r := range s {
		short := map[rune]string{'\n': `\n`, '\t': `\t`, '\r': `\r`, '"': `\"`, '\\': `\\`, '/': `\/`}[r]
		mustBeTold := r == '\n' || r == '"' || r == '\\'
		switch {
		case w.IntN(4) == 0:
			fmt.Fprintf(&b, pick(w, `\u{%x}`, `\u{%X}`, `\u{%06x}`), r)
		case short != "" && (mustBeTold || w.IntN(2) == 0):
			b.WriteString(short)
		default:
			b.WriteRune(r)
		}
	}
	return `"` + b.String() + `"`
}

// leaf, and what it means.
func (w *writer) leaf() (string, api.Value) {
	switch w.IntN(6) {
	case 0:
		return "null", null()
	case 1:
		n := w.IntN(2)
		return []string{"false", "true"}[n], boolean(int64(n))
	case 2:
		n := pick(w, 0, 1, -1, 10, 255, math.MaxInt64, math.MinInt64, int64(w.Uint64()), w.Int64N(100000))
		return w.numeral(n), whole(n)
	case 3:
		return w.fraction()
	}
	s := pick(w, texts()...)
	return w.quoted(s), text(s)
}

// numeral of n, to some base, with or without `_` and noughts.
func (w *writer) numeral(n int64) string {
	base := pick(w, 10, 10, 16, 8, 2)
	digits, below := strings.CutPrefix(strconv.FormatInt(n, base), "-")
	if base == 16 && w.IntN(2) == 0 {
		digits = strings.ToUpper(digits)
	}
	if base != 10 && w.IntN(3) == 0 {
		digits = "00" + digits
	}
	if len(digits) < 40 && w.IntN(3) == 0 {
		digits = strings.Join(strings.Split(digits, ""), "_")
	}
	sign := ""
	if below {
		sign = "-"
	}
	return sign + map[int]string{10: "", 16: "0x", 8: "0o", 2: "0b"}[base] + digits
}

func (w *writer) fraction() (string, api.Value) {
	switch w.IntN(8) {
	case 0:
		return "nan", fraction(0x7ff8000000000001)
	case 1:
		return "inf", number(math.Inf(1))
	case 2:
		return "-inf", number(math.Inf(-1))
	}
	f := math.Float64frombits(w.Uint64())
	if w.IntN(2) == 0 || math.IsNaN(f) || math.IsInf(f, 0) {
		f = pick(w, 0, math.Copysign(0, -1), 1, -1, 0.1, 1.5, -2.5e-7, 1e100, math.MaxFloat64, math.SmallestNonzeroFloat64)
	}
	s := strconv.FormatFloat(f, 'f', -1, 64)
	if !strings.Contains(s, ".") || len(s) > 80 || w.IntN(2) == 0 {
		s = strconv.FormatFloat(f, 'e', -1, 64)
	}
	return s, number(f)
}
