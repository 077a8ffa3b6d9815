package edit_test

import (
	"fmt"
	"math/rand/v2"
	"reflect"
	"regexp"
	"slices"
	"strings"

	"typecase/api"
	"typecase/esc"
	"typecase/mean"
	"typecase/path"
	"typecase/show"
	"typecase/upd"
)

// The reference of these tests: the document's words, over a text's solid tokens and its single bytes, without nodes and parts.

func null() api.Value { return api.Value{} }

func whole(n int64) api.Value { return api.Value{Kind: api.VInt, N: n} }

func text(s string) api.Value { return api.Value{Kind: api.VText, S: s} }

func list(l ...api.Value) api.Value { return api.Value{Kind: api.VList, L: l} }

func table(l ...api.Entry) api.Value { return api.Value{Kind: api.VTable, E: l} }

func entry(key string, v api.Value) api.Entry { return api.Entry{Key: key, V: v} }

func key(s string) api.Step { return api.Step{Key: s, I: -1} }

func place(i int) api.Step { return api.Step{I: i} }

func steps(p ...api.Step) []api.Step { return p }

func keep(n int) api.Part { return api.Part{Kind: api.PKeep, N: n} }

func cut(n int) api.Part { return api.Part{Kind: api.PCut, N: n} }

func put(s string) api.Part { return api.Part{Kind: api.PPut, S: s} }

// same values, whether lists that have nothing in them are nil or empty?
func same(a, b api.Value) bool {
	alone := func(v api.Value) api.Value {
		v.L, v.E = nil, nil
		return v
	}
	return reflect.DeepEqual(alone(a), alone(b)) && slices.EqualFunc(a.L, b.L, same) &&
		slices.EqualFunc(a.E, b.E, func(x, y api.Entry) bool { return x.Key == y.Key && same(x.V, y.V) })
}

// tokenForm of a document's tokens; those that are solid are in the group.
var tokenForm = regexp.MustCompile(`(?s)[ \t\r\n]+|#[^\n]*|/\*.*?\*/|([A-Za-z0-9_+.-]+|"(?:[^"\\]|\\.)*"|[{}\[\]:=,])`)

// span of bytes, from one place up to another.
type span struct{ from, to int }

func solids(s string) []span {
	var l []span
	for _, m := range tokenForm.FindAllStringSubmatchIndex(s, -1) {
		if m[2] >= 0 {
			l = append(l, span{m[2], m[3]})
		}
	}
	return l
}

// spot: a thing of a document, or its whole value: where its bytes stand, and those of its key, and of its value; and the solid tokens right ahead and right behind.
type spot struct {
	step                             api.Step
	thing, key, value, ahead, behind span
	opens                            span
	within                           []*spot
}

// scout of a document that is good, token by token.
type scout struct {
	s string
	l []span
	i int
}

func (c *scout) at(i int) string {
	if i < 0 || i >= len(c.l) {
		return ""
	}
	return c.s[c.l[i].from:c.l[i].to]
}

// spotOf the value that begins with the next token, its key ahead of it, if there is one.
func (c *scout) spotOf(number int) *spot {
	first := c.i
	p := &spot{step: place(number)}
	if next := c.at(c.i + 1); next == ":" || next == "=" {
		p.key = c.l[c.i]
		p.step = key(c.at(c.i))
		if said, _, e := esc.Unquote(c.at(c.i)); e == api.OK {
			p.step = key(said)
		}
		c.i += 2
	}
	p.value.from = c.l[c.i].from
	if c.at(c.i) == "[" || c.at(c.i) == "{" {
		p.opens = c.l[c.i]
		for c.i++; c.at(c.i) != "]" && c.at(c.i) != "}"; {
			p.within = append(p.within, c.spotOf(len(p.within)))
			if c.at(c.i) == "," {
				c.i++
			}
		}
	}
	p.value.to = c.l[c.i].to
	p.thing = span{c.l[first].from, p.value.to}
	c.i++
	if first > 0 {
		p.ahead = c.l[first-1]
	}
	if c.i < len(c.l) {
		p.behind = c.l[c.i]
	}
	return p
}

// find where a path leads.
func (p *spot) find(way []api.Step) *spot {
	for _, s := range way {
		p = p.within[slices.IndexFunc(p.within, func(q *spot) bool { return q.step == s })]
	}
	return p
}

// sheet: of each byte of a text whether it goes; and what comes ahead of it.
type sheet struct {
	s    string
	goes []bool
	puts []string
}

func newSheet(s string) *sheet { return &sheet{s, make([]bool, len(s)), make([]string, len(s)+1)} }

func (t *sheet) cut(w span) {
	for i := w.from; i < w.to; i++ {
		t.goes[i] = true
	}
}

func (t *sheet) put(at int, s string) { t.puts[at] += s }

// text that the sheet makes.
func (t *sheet) text() string {
	var made strings.Builder
	made.WriteString(t.puts[0])
	for i := range len(t.s) {
		if !t.goes[i] {
			made.WriteByte(t.s[i])
		}
		made.WriteString(t.puts[i+1])
	}
	return made.String()
}

// parts of the sheet, normal.
func (t *sheet) parts() []api.Part {
	var l []api.Part
	kept, gone, come := 0, 0, ""
	flush := func(parts ...api.Part) {
		for _, p := range parts {
			if p.N > 0 || p.S != "" {
				l = append(l, p)
			}
		}
	}
	for i := range len(t.s) + 1 {
		if t.puts[i] != "" {
			flush(keep(kept))
			kept, come = 0, come+t.puts[i]
		}
		switch {
		case i == len(t.s):
		case t.goes[i]:
			flush(keep(kept))
			kept = 0
			gone++
		default:
			flush(put(come), cut(gone))
			come, gone = "", 0
			kept++
		}
	}
	flush(keep(kept), put(come), cut(gone))
	return l
}

// modelSheet by P160's words, of an update that upd.Apply takes.
func modelSheet(s string, v api.Value, o api.Op) *sheet {
	t := newSheet(s)
	root := (&scout{s: s, l: solids(s)}).spotOf(0)
	switch o.Kind {
	case 1:
		if there, _ := path.Get(v, o.P); !same(there, o.V) {
			p := root.find(o.P)
			t.cut(p.value)
			t.put(p.value.from, modelX(api.Step{}, o.V))
		}
	case 2:
		last := len(o.P) - 1
		modelAdd(t, root.find(o.P[:last]), o.P[last], o.V)
	case 3:
		modelDrop(t, root.find(o.P))
	case 4:
		if p := root.find(o.P); o.Key != p.step.Key {
			t.cut(p.key)
			x, _ := esc.Key(o.Key)
			t.put(p.key.from, x)
		}
	}
	return t
}

func modelX(step api.Step, v api.Value) string {
	x, _ := show.Line(v)
	if step.I == -1 {
		k, _ := esc.Key(step.Key)
		return k + ": " + x
	}
	return x
}

func (t *sheet) isComma(w span) bool { return t.s[w.from:w.to] == "," }

func modelDrop(t *sheet, p *spot) {
	t.cut(p.thing)
	if t.isComma(p.behind) {
		t.cut(p.behind)
	} else if t.isComma(p.ahead) {
		t.cut(p.ahead)
	}
}

func modelAdd(t *sheet, in *spot, step api.Step, v api.Value) {
	x, count := modelX(step, v), len(in.within)
	switch {
	case step.I >= 0 && step.I < count:
		t.put(in.within[step.I].thing.from, x+", ")
	case count == 0:
		t.put(in.opens.to, x)
	case t.isComma(in.within[count-1].behind):
		t.put(in.within[count-1].behind.to, " "+x)
	default:
		t.put(in.within[count-1].thing.to, ", "+x)
	}
}

// modelEdit by P160's words; and the text that it makes.
func modelEdit(s string, o api.Op) ([]api.Part, string, int, api.Errno) {
	v, at, e := mean.Mean(s)
	if e != api.OK {
		return nil, "", at, e
	}
	if _, e := upd.Apply(v, o); e != api.OK {
		return nil, "", 0, e
	}
	t := modelSheet(s, v, o)
	made := t.text()
	if len(made) > 20000 {
		return nil, "", 0, api.ErrLarge
	}
	return t.parts(), made, 0, api.OK
}

// modelEdits by P161's words.
func modelEdits(s string, l []api.Op) (string, int, api.Errno) {
	if len(l) == 0 {
		if _, _, e := mean.Mean(s); e != api.OK {
			return "", 0, e
		}
	}
	for i, o := range l {
		_, made, _, e := modelEdit(s, o)
		if e != api.OK {
			return "", i, e
		}
		s = made
	}
	return s, 0, api.OK
}

// maker of documents and updates; the same ones in each run.
type maker struct {
	*rand.Rand
	b *strings.Builder
}

func newMaker(seed uint64) maker { return maker{rand.New(rand.NewPCG(16, seed)), nil} }

func pick[T any](m maker, l ...T) T { return l[m.IntN(len(l))] }

// keys: few, so that they meet.
func keys() []string {
	return []string{"", "a", "B", "b", "c", "a b", "aa", "null", "é", ",", "\x00", "\"", strings.Repeat("k", 100)}
}

// document with at most so many tables and lists in one another.
func (m maker) document(deep int) string {
	m.b = &strings.Builder{}
	m.gap()
	m.write(deep)
	m.gap()
	return m.b.String()
}

// gap of what means nothing, much of it like what means something.
func (m maker) gap() {
	for range m.IntN(3) {
		m.b.WriteString(pick(m, " ", "\n", "\t", "\r\n", "/* } \" , 1 */", "/**/", "/*,*/", "# a: 1, ]\n", "#,\n", "  "))
	}
}

func (m maker) write(deep int) {
	switch kind := m.IntN(6); {
	case deep == 0 || kind == 0:
		m.b.WriteString(pick(m, "null", "true", "false", "0", "7", "0x7", "-1", "1_0", "1.5", "15e-1", "nan", "inf", `""`, `"a"`, `"\u{61}"`, `", ]"`, `"#"`, `"/*"`, `"\""`, `"é"`))
	case kind < 4:
		m.between("{", "}", m.shuffledKeys(), func(k string) {
			m.b.WriteString(m.key(k))
			m.gap()
			m.b.WriteString(pick(m, ":", "="))
			m.gap()
			m.write(deep - 1)
		})
	default:
		m.between("[", "]", make([]string, m.IntN(5)), func(string) { m.write(deep - 1) })
	}
}

func (m maker) shuffledKeys() []string {
	l := keys()
	m.Shuffle(len(l), func(i, k int) { l[i], l[k] = l[k], l[i] })
	return l[:m.IntN(5)]
}

// key in one of the ways in which it may be written.
func (m maker) key(s string) string {
	told, _ := esc.Key(s)
	quoted, _ := esc.Quote(s)
	escaped := `"`
	for _, r := range s {
		escaped += fmt.Sprintf(`\u{%x}`, r)
	}
	return pick(m, told, quoted, escaped+`"`)
}

func (m maker) between(first, last string, l []string, write func(string)) {
	m.b.WriteString(first)
	m.gap()
	for i, s := range l {
		write(s)
		m.gap()
		if i < len(l)-1 || m.IntN(2) == 0 {
			m.b.WriteString(",")
			m.gap()
		}
	}
	m.b.WriteString(last)
}

// value that is good, at most so deep.
func (m maker) value(deep int) api.Value {
	v, _, _ := mean.Mean(m.document(deep))
	return v
}

// update of a value; there may be nothing for it to change.
func (m maker) update(v api.Value) api.Op {
	o := api.Op{Kind: 1 + m.IntN(4), P: slices.Clone(pick(m, path.All(v)...)), V: m.value(m.IntN(3)), Key: pick(m, keys()...)}
	switch n := m.IntN(20); {
	case o.Kind == api.USet && n < 4:
		o.V, _ = path.Get(v, o.P)
	case n < 2 || o.Kind == api.UAdd && n < 18:
		o.P = append(o.P, m.stepFrom(v, o.P))
	case o.Kind == api.UName && n < 4 && len(o.P) > 0:
		o.Key = o.P[len(o.P)-1].Key
	case n == 19:
		m.spoil(&o)
	}
	return o
}

// stepFrom where a path leads, mostly of its Kind.
func (m maker) stepFrom(v api.Value, p []api.Step) api.Step {
	switch there, _ := path.Get(v, p); {
	case m.IntN(9) == 0:
		return pick(m, key("a"), place(0), place(7), place(1<<62))
	case there.Kind == api.VList:
		return place(m.IntN(len(there.L) + 1 + m.IntN(2)))
	}
	return key(pick(m, keys()...))
}

// spoil an update: something of it is mostly refused, or not looked at.
func (m maker) spoil(o *api.Op) {
	switch m.IntN(5) {
	case 0:
		o.Kind = pick(m, 0, -1, 5, 1<<40, -1<<63)
	case 1:
		bad := pick(m, place(-2), api.Step{Key: "a"}, key("\xff"), key(strings.Repeat("k", 101)))
		o.P = slices.Insert(o.P, m.IntN(len(o.P)+1), bad)
	case 2:
		o.P = append(o.P, make([]api.Step, 21)...)
	case 3:
		o.V = pick(m, badValues()...)
	case 4:
		o.Key = pick(m, "\xff", strings.Repeat("k", 101))
	}
}

func badValues() []api.Value {
	return []api.Value{{Kind: 9}, {Kind: api.VBool, N: 2}, text("\xff"), text(strings.Repeat("x", 4001)), list(make([]api.Value, 201)...), table(entry("b", null()), entry("a", null()))}
}
