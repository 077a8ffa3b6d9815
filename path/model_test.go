package path_test

import (
	"fmt"
	"math"
	"math/big"
	"math/rand/v2"
	"reflect"
	"regexp"
	"slices"
	"strings"
	"unicode/utf8"

	"typecase/api"
)

// The reference of these tests: the document's words, by other means than the program's.

func null() api.Value { return api.Value{} }

func whole(n int64) api.Value { return api.Value{Kind: api.VInt, N: n} }

func text(s string) api.Value { return api.Value{Kind: api.VText, S: s} }

func list(l ...api.Value) api.Value { return api.Value{Kind: api.VList, L: l} }

func table(l ...api.Entry) api.Value { return api.Value{Kind: api.VTable, E: l} }

func entry(key string, v api.Value) api.Entry { return api.Entry{Key: key, V: v} }

func key(s string) api.Step { return api.Step{Key: s, I: -1} }

func place(i int) api.Step { return api.Step{I: i} }

func steps(p ...api.Step) []api.Step { return p }

// nested: a value with so many lists around it.
func nested(lists int, v api.Value) api.Value {
	for range lists {
		v = list(v)
	}
	return v
}

// noughts: a list of so many times nothing.
func noughts(count int) api.Value { return list(make([]api.Value, count)...) }

// modelCheck by P130's words.
func modelCheck(p []api.Step) api.Errno {
	if len(p) > 20 {
		return api.ErrDeep
	}
	for _, s := range p {
		if s.I < -1 {
			return api.ErrArg
		}
		if s.I >= 0 && s.Key != "" {
			return api.ErrArg
		}
		if len(s.Key) > 100 {
			return api.ErrLarge
		}
		if !utf8.ValidString(s.Key) {
			return api.ErrText
		}
	}
	return api.OK
}

// What a path's text is made of, by P131's, P60's and P62's words.
const (
	bareForm   = `[A-Za-z_][A-Za-z0-9_-]{0,99}`
	saidForm   = `(?:[^"\\\x00-\x1f\x7f]|\\["\\ntr]|\\u\{(?:[0-8bcef]|1[0-9a-f]|7f)\})*`
	placeForm  = `0|[1-9][0-9]*`
	oneStep    = `\.(` + bareForm + `)|\."(` + saidForm + `)"|\[(` + placeForm + `)\]`
	wholeForm  = `(?s)^\$(?:` + oneStep + `)*$`
	scalarForm = `(?s)\\u\{[0-9a-f]+\}|\\.|.`
)

var (
	isBare   = regexp.MustCompile(`^` + bareForm + `$`)
	isPath   = regexp.MustCompile(wholeForm)
	aStep    = regexp.MustCompile(`(?s)` + oneStep)
	aScalar  = regexp.MustCompile(scalarForm)
	reserved = []string{"null", "true", "false", "nan", "inf"}
)

func modelBare(s string) bool { return isBare.MatchString(s) && !slices.Contains(reserved, s) }

// modelText by P131's words, of paths that Check takes.
func modelText(p []api.Step) string {
	told := "$"
	for _, s := range p {
		switch {
		case s.I >= 0:
			told += fmt.Sprintf("[%d]", s.I)
		case modelBare(s.Key):
			told += "." + s.Key
		default:
			told += `."` + modelSaid(s.Key) + `"`
		}
	}
	return told
}

// modelSaid: how a text stands between quotes.
func modelSaid(s string) string {
	said := ""
	for _, r := range s {
		i := strings.IndexRune("\"\\\n\t\r", r)
		switch {
		case i >= 0:
			said += `\` + `"\ntr`[i:i+1]
		case r < 32 || r == 127:
			said += fmt.Sprintf(`\u{%x}`, r)
		default:
			said += string(r)
		}
	}
	return said
}

// modelUnsaid: what stands so between quotes.
func modelUnsaid(said string) string {
	return aScalar.ReplaceAllStringFunc(said, func(one string) string {
		if strings.HasPrefix(one, `\u{`) {
			var r rune
			fmt.Sscanf(one, `\u{%x}`, &r)
			return string(r)
		}
		if one[0] == '\\' {
			return strings.NewReplacer("n", "\n", "t", "\t", "r", "\r").Replace(one[1:])
		}
		return one
	})
}

// modelRead by P131's words: the form of the whole, and then each step's own rules.
func modelRead(s string) ([]api.Step, api.Errno) {
	if !utf8.ValidString(s) || !isPath.MatchString(s) {
		return nil, api.ErrForm
	}
	var p []api.Step
	for _, m := range aStep.FindAllStringSubmatch(s, -1) {
		bare, said, digits := m[1], m[2], m[3]
		switch {
		case digits != "":
			n, _ := new(big.Int).SetString(digits, 10)
			if n.Cmp(big.NewInt(1<<62)) > 0 {
				return nil, api.ErrForm
			}
			p = append(p, place(int(n.Int64())))
		case bare != "":
			if slices.Contains(reserved, bare) {
				return nil, api.ErrForm
			}
			p = append(p, key(bare))
		default:
			k := modelUnsaid(said)
			if len(k) > 100 || modelBare(k) {
				return nil, api.ErrForm
			}
			p = append(p, key(k))
		}
	}
	if len(p) > 20 {
		return nil, api.ErrForm
	}
	return p, api.OK
}

// modelGet by P132's words, with a call for each step.
func modelGet(v api.Value, p []api.Step) (api.Value, api.Errno) {
	if e := modelCheck(p); e != api.OK {
		return null(), e
	}
	if len(p) == 0 {
		return v, api.OK
	}
	if p[0].I >= 0 {
		switch {
		case v.Kind != 5:
			return null(), api.ErrKind
		case p[0].I >= len(v.L):
			return null(), api.ErrNone
		}
		return modelGet(v.L[p[0].I], p[1:])
	}
	if v.Kind != 6 {
		return null(), api.ErrKind
	}
	for _, e := range v.E {
		if e.Key == p[0].Key {
			return modelGet(e.V, p[1:])
		}
	}
	return null(), api.ErrNone
}

// modelAll by P132's words: all of them, and then the first 1000.
func modelAll(v api.Value) [][]api.Step {
	l := modelEach(v, nil)
	return l[:min(len(l), 1000)]
}

// modelEach path to a value that this one leads to, and to its parts.
func modelEach(v api.Value, here []api.Step) [][]api.Step {
	l := [][]api.Step{here}
	for i, part := range v.L {
		l = append(l, modelEach(part, append(slices.Clone(here), place(i)))...)
	}
	for _, e := range v.E {
		l = append(l, modelEach(e.V, append(slices.Clone(here), key(e.Key)))...)
	}
	return l
}

// same values, whether lists that have nothing in them are nil or empty?
func same(a, b api.Value) bool { return reflect.DeepEqual(bare(a), bare(b)) }

// bare copy of a value: nil for each list that has nothing in it.
func bare(v api.Value) api.Value {
	c := v
	c.L, c.E = nil, nil
	for _, part := range v.L {
		c.L = append(c.L, bare(part))
	}
	for _, e := range v.E {
		c.E = append(c.E, entry(e.Key, bare(e.V)))
	}
	return c
}

func samePaths(a, b [][]api.Step) bool {
	return slices.EqualFunc(a, b, func(p, q []api.Step) bool { return slices.Equal(p, q) })
}

// scribble over all of a value's memory, the room behind its lists included.
func scribble(v *api.Value) {
	for i := range v.L[:cap(v.L)] {
		scribble(&v.L[:cap(v.L)][i])
	}
	for i := range v.E[:cap(v.E)] {
		scribble(&v.E[:cap(v.E)][i].V)
		v.E[:cap(v.E)][i].Key = "scribble"
	}
	*v = api.Value{Kind: -7, N: 7, F: 7, S: "scribble"}
}

// scribbleSteps over all of a path's memory, the room behind it included.
func scribbleSteps(p []api.Step) {
	for i := range p[:cap(p)] {
		p[:cap(p)][i] = api.Step{Key: "scribble", I: -7}
	}
}

// maker of values, paths and texts; the same ones in each run.
type maker struct{ *rand.Rand }

func newMaker(seed uint64) maker { return maker{rand.New(rand.NewPCG(13, seed))} }

func pick[T any](m maker, l []T) T { return l[m.IntN(len(l))] }

// keys: bare ones, words that stand for values, and what would be read as something else without quotes.
func keys() []string {
	return []string{"", "a", "A", "b", "ab", "a b", "a-b", "a.b", ".", "..", "[", "]", "[0]", "$", "$.a", "a[0]", "_", "-", "a1", "1", "0", "-1", "null", "true", "false", "nan", "inf", "Null", "nulls", "é", "€", "\"", "\\", "\"a\"", "\\n", "/", "a\n", "\n", "\t", "\r", "\x00", "\b", "\v", "\x1f", " ", "\x7f", "\u0080", "\ufffd", "\u2028", "\U0010ffff", strings.Repeat("k", 100), strings.Repeat("\x01", 100), strings.Repeat("é", 50)}
}

func places() []int {
	return []int{0, 1, 2, 9, 10, 11, 99, 100, 199, 200, 1000, 1 << 31, 1 << 32, 1<<62 - 1, 1 << 62}
}

// path that Check takes and Read can tell.
func (m maker) path() []api.Step {
	var p []api.Step
	for range m.IntN(7) {
		if m.IntN(2) == 0 {
			p = append(p, key(pick(m, keys())))
		} else {
			p = append(p, place(pick(m, places())))
		}
	}
	return p
}

// spoilPath: mostly Check does not take it any more.
func (m maker) spoilPath(p []api.Step) []api.Step {
	bad := api.Step{Key: pick(m, []string{"", "", "a", "\xff", "a\xc3", strings.Repeat("k", 101), strings.Repeat("\xff", 101)}), I: pick(m, []int{-1, -1, -1, -2, -3, 0, 1, math.MinInt, math.MaxInt})}
	p = slices.Insert(p, m.IntN(len(p)+1), bad)
	if m.IntN(6) == 0 {
		p = append(p, make([]api.Step, 10+m.IntN(8))...)
	}
	return p
}

// spoilText: something of it is doubled, gone, or another one.
func (m maker) spoilText(s string) string {
	at := m.IntN(len(s) + 1)
	end := min(len(s), at+m.IntN(3))
	other := pick(m, []string{"", s[at:end] + s[at:end], "$", ".", "[", "]", `"`, `\`, `\/`, `\u{9}`, `\u{41}`, `\u{1F}`, `\u{01}`, `\u{1}`, "0", "00", "_", "-", " ", "\n", "\xff", "é", "null", ".a", "[0]", `.""`, `."a"`, "[01]", "[0x1]", "[1_0]", "[-0]", "[+1]"})
	return s[:at] + other + s[end:]
}

// value, at most so deep; some are not good.
func (m maker) value(deep int) api.Value {
	kind := m.IntN(9)
	if deep <= 1 {
		kind = m.IntN(5)
	}
	switch kind {
	case 5, 6:
		v := list()
		for range m.IntN(4) {
			v.L = append(v.L, m.value(deep-1))
		}
		return v
	case 7, 8:
		v := table()
		for _, k := range keys() {
			if m.IntN(12) == 0 {
				v.E = append(v.E, entry(k, m.value(deep-1)))
			}
		}
		slices.SortFunc(v.E, func(a, b api.Entry) int { return strings.Compare(a.Key, b.Key) })
		return v
	case 4:
		return text(pick(m, keys()))
	case 3:
		return whole(m.Int64N(100))
	}
	return null()
}

// spoilValue: another Kind, a part that its Kind does not name, or a key twice.
func (m maker) spoilValue(v *api.Value) {
	p := m.partOf(v)
	switch m.IntN(5) {
	case 0:
		p.Kind = m.IntN(10) - 1
	case 1:
		p.L = append(p.L, m.value(2))
	case 2:
		p.E = append(p.E, entry(pick(m, append(keys(), "\xff", strings.Repeat("k", 101))), m.value(2)))
	case 3:
		slices.Reverse(p.E)
	case 4:
		*p = nested(15+m.IntN(10), *p)
	}
}

// partOf a value: itself, or one of its parts, or of theirs, and so on.
func (m maker) partOf(v *api.Value) *api.Value {
	parts := []*api.Value{}
	for i := range v.L {
		parts = append(parts, &v.L[i])
	}
	for i := range v.E {
		parts = append(parts, &v.E[i].V)
	}
	if len(parts) == 0 || m.IntN(3) == 0 {
		return v
	}
	return m.partOf(pick(m, parts))
}
