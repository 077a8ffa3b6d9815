package typ_test

import (
	"bytes"
	"fmt"
	"math/rand/v2"
	"reflect"
	"slices"
	"strings"
	"unicode/utf8"

	"typecase/api"
	"typecase/val"
)

// The reference of these tests: each promise's words. Names are followed by a table of who comes to whom, and PARTS are written out as often as they are told.

func leaf(kind int) api.Type { return api.Type{Kind: kind} }

func anything() api.Type { return leaf(api.TAny) }

func null() api.Type { return leaf(api.TNull) }

func truth() api.Type { return leaf(api.TBool) }

func fraction() api.Type { return leaf(api.TFloat) }

func whole(lo, hi int64) api.Type { return api.Type{Kind: api.TInt, Lo: lo, Hi: hi} }

func text(lo, hi int64) api.Type { return api.Type{Kind: api.TText, Lo: lo, Hi: hi} }

func oneOf(l ...string) api.Type { return api.Type{Kind: api.TOneOf, Texts: l} }

func list(lo, hi int64, t api.Type) api.Type {
	return api.Type{Kind: api.TList, Lo: lo, Hi: hi, T: []api.Type{t}}
}

func dict(t api.Type) api.Type { return api.Type{Kind: api.TMap, T: []api.Type{t}} }

func record(l ...api.Field) api.Type { return api.Type{Kind: api.TRecord, F: l} }

func union(l ...api.Type) api.Type { return api.Type{Kind: api.TUnion, T: l} }

func ref(name string) api.Type { return api.Type{Kind: api.TRef, Name: name} }

func field(name string, t api.Type) api.Field { return api.Field{Name: name, T: t} }

func opt(name string, t api.Type) api.Field { return api.Field{Name: name, Opt: true, T: t} }

func withDef(name string, t api.Type, v api.Value) api.Field {
	return api.Field{Name: name, HasDef: true, T: t, Def: v}
}

func def(name string, t api.Type) api.Def { return api.Def{Name: name, T: t} }

// schema of a Root and Defs.
func schema(root api.Type, l ...api.Def) api.Schema { return api.Schema{Defs: l, Root: root} }

// number, a value.
func number(n int64) api.Value { return api.Value{Kind: api.VInt, N: n} }

// values: a list of them.
func values(l ...api.Value) api.Value { return api.Value{Kind: api.VList, L: l} }

// at a key: a table of one entry.
func at(key string, v api.Value) api.Value {
	return api.Value{Kind: api.VTable, E: []api.Entry{{Key: key, V: v}}}
}

// nested: a type with so many others around it, one of each Kind that may be around one, in turn.
func nested(around int, t api.Type) api.Type {
	for i := range around {
		switch i % 4 {
		case 0:
			t = dict(t)
		case 1:
			t = union(t)
		case 2:
			t = list(0, 1, t)
		case 3:
			t = record(field("a", t))
		}
	}
	return t
}

// nothings: a union of so many unions of nothing.
func nothings(count int) api.Type { return union(slices.Repeat([]api.Type{union()}, count)...) }

// fields: a record of so many, of one type.
func fields(count int, t api.Type) api.Type {
	r := record()
	for i := range count {
		r.F = append(r.F, field(fmt.Sprintf("%03d", i), t))
	}
	return r
}

// numbered texts, so many, rising.
func numbered(count int) []string {
	var l []string
	for i := range count {
		l = append(l, fmt.Sprintf("%03d", i))
	}
	return l
}

// met: a type as one meets it, with how many are around it.
type met struct {
	t      api.Type
	around int
}

// modelTypes that are gone through by P191's words.
func modelTypes(s api.Schema) []met {
	var l []met
	var meet func(t api.Type, around int)
	meet = func(t api.Type, around int) {
		l = append(l, met{t, around})
		for _, part := range t.T {
			meet(part, around+1)
		}
		for _, f := range t.F {
			meet(f.T, around+1)
		}
	}
	for _, d := range s.Defs {
		meet(d.T, 0)
	}
	meet(s.Root, 0)
	return l
}

// modelCheck by P191's and P192's words.
func modelCheck(s api.Schema) api.Errno {
	if len(s.Defs) > 50 {
		return api.ErrLarge
	}
	var names []string
	for _, d := range s.Defs {
		if e := modelName(names, d.Name); e != api.OK {
			return e
		}
		names = append(names, d.Name)
	}
	types := modelTypes(s)
	for i, m := range types {
		if e := modelAlone(m, i+1, names); e != api.OK {
			return e
		}
	}
	if modelCircle(s) {
		return api.ErrType
	}
	for _, m := range types {
		if m.t.Kind == 11 && modelClash(s, m.t) {
			return api.ErrClash
		}
	}
	return api.OK
}

// modelName behind others.
func modelName(ahead []string, name string) api.Errno {
	if len(name) > 100 {
		return api.ErrLarge
	}
	return modelText(ahead, name)
}

// modelText behind others.
func modelText(ahead []string, s string) api.Errno {
	switch {
	case !utf8.ValidString(s):
		return api.ErrText
	case len(ahead) > 0 && bytes.Compare([]byte(s), []byte(ahead[len(ahead)-1])) <= 0:
		return api.ErrOrder
	}
	return api.OK
}

// modelAlone: a type without its parts, as number so and so.
func modelAlone(m met, number int, names []string) api.Errno {
	t := m.t
	switch {
	case number >= 201:
		return api.ErrLarge
	case m.around >= 20:
		return api.ErrDeep
	case !modelOfKind(t):
		return api.ErrKind
	case t.Lo > t.Hi, (t.Kind == 6 || t.Kind == 8) && t.Lo < 0:
		return api.ErrRange
	case t.Kind == 7:
		return modelTexts(t.Texts)
	case t.Kind == 10:
		return modelFields(t.F)
	case t.Kind == 12 && !slices.Contains(names, t.Name):
		return api.ErrNone
	}
	return api.OK
}

// modelOfKind: which of its fields are not zero, as letters, and which a Kind has.
func modelOfKind(t api.Type) bool {
	if t.Kind < 1 || t.Kind > 12 {
		return false
	}
	has := []string{"", "", "", "", "lh", "", "lh", "x", "lht", "t", "f", "t", "n"}[t.Kind]
	for letter, is := range map[string]bool{"l": t.Lo != 0, "h": t.Hi != 0, "x": len(t.Texts) > 0, "t": len(t.T) > 0, "f": len(t.F) > 0, "n": t.Name != ""} {
		if is && !strings.Contains(has, letter) {
			return false
		}
	}
	return t.Kind != 8 && t.Kind != 9 || len(t.T) == 1
}

func modelTexts(l []string) api.Errno {
	switch {
	case len(l) == 0:
		return api.ErrForm
	case len(l) > 200:
		return api.ErrLarge
	}
	for i, s := range l {
		if e := modelText(l[:i], s); e != api.OK {
			return e
		}
	}
	return api.OK
}

func modelFields(l []api.Field) api.Errno {
	if len(l) > 200 {
		return api.ErrLarge
	}
	var ahead []string
	for _, f := range l {
		if e := modelName(ahead, f.Name); e != api.OK {
			return e
		}
		if e := val.Check(f.Def); e != api.OK {
			return e
		}
		if !f.HasDef && !sameValue(f.Def, api.Value{}) {
			return api.ErrKind
		}
		ahead = append(ahead, f.Name)
	}
	return api.OK
}

// modelCircle: does a Def come to itself? Asked of a table of which Def comes to which one, by ways of any length.
func modelCircle(s api.Schema) bool {
	n := len(s.Defs)
	comes := make([][]bool, n)
	for i, d := range s.Defs {
		comes[i] = make([]bool, n)
		for _, name := range modelNames(d.T) {
			comes[i][modelDef(s, name)] = true
		}
	}
	for k := range n {
		for i := range n {
			for j := range n {
				comes[i][j] = comes[i][j] || comes[i][k] && comes[k][j]
			}
		}
	}
	for i := range n {
		if comes[i][i] {
			return true
		}
	}
	return false
}

// modelNames to which a type comes without another name between.
func modelNames(t api.Type) []string {
	var l []string
	switch t.Kind {
	case 11:
		for _, x := range t.T {
			l = append(l, modelNames(x)...)
		}
	case 12:
		l = append(l, t.Name)
	}
	return l
}

// modelDef: the place of the Def of that name.
func modelDef(s api.Schema, name string) int {
	return slices.IndexFunc(s.Defs, func(d api.Def) bool { return d.Name == name })
}

// modelParts of a type by P192's words.
func modelParts(s api.Schema, t api.Type) []api.Type {
	switch t.Kind {
	case 12:
		return modelParts(s, s.Defs[modelDef(s, t.Name)].T)
	case 11:
		var l []api.Type
		for _, x := range t.T {
			l = append(l, modelParts(s, x)...)
		}
		return l
	}
	return []api.Type{t}
}

// modelKinds of a type by P192's words; one that is told twice stands there twice.
func modelKinds(s api.Schema, t api.Type) []int {
	var l []int
	for _, p := range modelParts(s, t) {
		l = append(l, [][]int{{}, {0, 1, 2, 3, 4, 5, 6}, {0}, {1}, {2}, {3}, {4}, {4}, {5}, {6}, {6}}[p.Kind]...)
	}
	slices.Sort(l)
	return l
}

func modelClash(s api.Schema, t api.Type) bool {
	l := modelKinds(s, t)
	return len(slices.Compact(slices.Clone(l))) < len(l)
}

// sameValue, whether lists that have nothing in them are nil or empty?
func sameValue(v, w api.Value) bool { return reflect.DeepEqual(bareValue(v), bareValue(w)) }

func same(t, u api.Type) bool { return reflect.DeepEqual(bare(t), bare(u)) }

func sameTypes(l, k []api.Type) bool { return same(union(l...), union(k...)) }

func sameSchemas(s, r api.Schema) bool { return reflect.DeepEqual(bareSchema(s), bareSchema(r)) }

// bare copies: nil for each list that has nothing in it.

func bareValue(v api.Value) api.Value {
	c := v
	c.L, c.E = nil, nil
	for _, x := range v.L {
		c.L = append(c.L, bareValue(x))
	}
	for _, e := range v.E {
		c.E = append(c.E, api.Entry{Key: e.Key, V: bareValue(e.V)})
	}
	return c
}

func bare(t api.Type) api.Type {
	c := t
	c.Texts, c.T, c.F = append([]string(nil), t.Texts...), nil, nil
	for _, x := range t.T {
		c.T = append(c.T, bare(x))
	}
	for _, f := range t.F {
		f.T, f.Def = bare(f.T), bareValue(f.Def)
		c.F = append(c.F, f)
	}
	return c
}

func bareSchema(s api.Schema) api.Schema {
	c := api.Schema{Root: bare(s.Root)}
	for _, d := range s.Defs {
		c.Defs = append(c.Defs, def(d.Name, bare(d.T)))
	}
	return c
}

// roomy copies: behind each list there is room, with something in it.

func roomyValue(v api.Value) api.Value {
	c := bareValue(v)
	for i := range c.L {
		c.L[i] = roomyValue(c.L[i])
	}
	for i := range c.E {
		c.E[i].V = roomyValue(c.E[i].V)
	}
	c.L = append(c.L, number(7), number(7))[:len(v.L)]
	c.E = append(c.E, api.Entry{Key: "behind"}, api.Entry{Key: "behind"})[:len(v.E)]
	return c
}

func roomy(t api.Type) api.Type {
	c := bare(t)
	for i := range c.T {
		c.T[i] = roomy(c.T[i])
	}
	for i := range c.F {
		c.F[i].T, c.F[i].Def = roomy(c.F[i].T), roomyValue(c.F[i].Def)
	}
	c.Texts = append(c.Texts, "behind", "behind")[:len(t.Texts)]
	c.T = append(c.T, ref("behind"), ref("behind"))[:len(t.T)]
	c.F = append(c.F, field("behind", null()), field("behind", null()))[:len(t.F)]
	return c
}

func roomySchema(s api.Schema) api.Schema {
	c := api.Schema{Root: roomy(s.Root)}
	for _, d := range s.Defs {
		c.Defs = append(c.Defs, def(d.Name, roomy(d.T)))
	}
	c.Defs = append(c.Defs, def("behind", null()), def("behind", null()))[:len(s.Defs)]
	return c
}

// rooms: copies, with what stands behind the lists.

func roomOfValue(v api.Value) api.Value {
	c := v
	c.L, c.E = nil, nil
	for _, x := range v.L[:cap(v.L)] {
		c.L = append(c.L, roomOfValue(x))
	}
	for _, e := range v.E[:cap(v.E)] {
		c.E = append(c.E, api.Entry{Key: e.Key, V: roomOfValue(e.V)})
	}
	return c
}

func roomOf(t api.Type) api.Type {
	c := t
	c.Texts, c.T, c.F = slices.Clone(t.Texts[:cap(t.Texts)]), nil, nil
	for _, x := range t.T[:cap(t.T)] {
		c.T = append(c.T, roomOf(x))
	}
	for _, f := range t.F[:cap(t.F)] {
		f.T, f.Def = roomOf(f.T), roomOfValue(f.Def)
		c.F = append(c.F, f)
	}
	return c
}

func roomOfSchema(s api.Schema) api.Schema {
	c := api.Schema{Root: roomOf(s.Root)}
	for _, d := range s.Defs[:cap(s.Defs)] {
		c.Defs = append(c.Defs, def(d.Name, roomOf(d.T)))
	}
	return c
}

// scribble over all memory of a type, the room behind its lists included.

func scribbleValue(v *api.Value) {
	for i := range v.L[:cap(v.L)] {
		scribbleValue(&v.L[:cap(v.L)][i])
	}
	for i := range v.E[:cap(v.E)] {
		scribbleValue(&v.E[:cap(v.E)][i].V)
		v.E[:cap(v.E)][i].Key = "scribble"
	}
	*v = api.Value{Kind: -7, N: 7, F: 7, S: "scribble"}
}

func scribble(t *api.Type) {
	for i := range t.Texts[:cap(t.Texts)] {
		t.Texts[:cap(t.Texts)][i] = "scribble"
	}
	for i := range t.T[:cap(t.T)] {
		scribble(&t.T[:cap(t.T)][i])
	}
	for i := range t.F[:cap(t.F)] {
		f := &t.F[:cap(t.F)][i]
		scribble(&f.T)
		scribbleValue(&f.Def)
		*f = api.Field{Name: "scribble", Opt: true}
	}
	*t = api.Type{Kind: -7, Lo: 7, Hi: 7, Name: "scribble"}
}

func scribbleSchema(s api.Schema) {
	for i := range s.Defs[:cap(s.Defs)] {
		d := &s.Defs[:cap(s.Defs)][i]
		scribble(&d.T)
		d.Name = "scribble"
	}
	scribble(&s.Root)
}

// maker of schemas; the same ones in each run.
type maker struct{ *rand.Rand }

func newMaker(seed uint64) maker { return maker{rand.New(rand.NewPCG(19, seed))} }

func pick[T any](m maker, l []T) T { return l[m.IntN(len(l))] }

// names, rising.
func names() []string { return []string{"", "\x00", "a", "a\x00", "aa", "b", "é", "\U0010ffff"} }

// some of the names, rising.
func (m maker) some() []string {
	var l []string
	for _, n := range names() {
		if m.IntN(3) > 0 {
			l = append(l, n)
		}
	}
	return l
}

// leaves: good types without parts within, of each Kind that has none.
func leaves() []api.Type {
	return []api.Type{anything(), null(), truth(), whole(0, 0), whole(-3, 4), whole(-1<<63, 1<<63-1), fraction(), text(0, 0), text(2, 1<<63-1), oneOf(""), oneOf("a", "b"), record(), union()}
}

// good schema. Its Defs are made from the last one to the first: what stands in a union tells only names whose kinds are known.
func (m maker) good() api.Schema {
	var s api.Schema
	all := m.some()
	for _, name := range slices.Backward(all) {
		t := m.typ(s, all, 1+m.IntN(3))
		s.Defs = slices.Insert(s.Defs, 0, def(name, t))
	}
	s.Root = m.typ(s, all, 1+m.IntN(4))
	return s
}

// typ that is good, at most so deep, and comes to names that s has alone; within others it may tell each of all.
func (m maker) typ(s api.Schema, all []string, deep int) api.Type {
	kind := 1 + m.IntN(12)
	switch {
	case kind == api.TRef && len(s.Defs) > 0:
		return ref(pick(m, s.Defs).Name)
	case deep > 1 && kind == api.TList:
		return list(0, m.Int64N(3), m.part(s, all, deep-1))
	case deep > 1 && kind == api.TMap:
		return dict(m.part(s, all, deep-1))
	case deep > 1 && kind == api.TRecord:
		r := record()
		for _, name := range m.some() {
			r.F = append(r.F, m.field(name, m.part(s, all, deep-1)))
		}
		return r
	case deep > 1 && (kind == api.TUnion || kind == api.TAny || kind == api.TNull):
		return m.union(s, all, deep)
	}
	return pick(m, leaves())
}

// part within a list, a map or a record.
func (m maker) part(s api.Schema, all []string, deep int) api.Type {
	if len(all) > 0 && m.IntN(3) == 0 {
		return ref(pick(m, all))
	}
	return m.typ(s, all, deep)
}

func (m maker) field(name string, t api.Type) api.Field {
	f := field(name, t)
	f.Opt = m.IntN(3) == 0
	if m.IntN(3) == 0 {
		f.HasDef, f.Def = true, pick(m, []api.Value{{}, number(m.Int64N(9)), values(number(1), values()), at("a", values(number(2)))})
	}
	return f
}

func (m maker) union(s api.Schema, all []string, deep int) api.Type {
	u := union()
	for range m.IntN(7) {
		more := union(append(slices.Clone(u.T), m.typ(s, all, deep-1))...)
		if !modelClash(s, more) {
			u = more
		}
	}
	return u
}

// partOf a type: itself, or one of its parts within, or of theirs, and so on.
func (m maker) partOf(t *api.Type) *api.Type {
	var l []*api.Type
	for i := range t.T {
		l = append(l, &t.T[i])
	}
	for i := range t.F {
		l = append(l, &t.F[i].T)
	}
	if len(l) == 0 || m.IntN(3) == 0 {
		return t
	}
	return m.partOf(pick(m, l))
}

// badTexts: no good ones, or too long to be names.
func badTexts() []string {
	return []string{"\xff", "a\xc3", "\xed\xa0\x80", strings.Repeat("k", 101), strings.Repeat("\xff", 101), strings.Repeat("é", 50) + "a"}
}

// spoil a schema: something of it is not as it was, and mostly no good schema has it so.
func (m maker) spoil(s *api.Schema) {
	if len(s.Defs) > 0 && m.IntN(6) == 0 {
		m.spoilDef(s)
		return
	}
	t := m.typeOf(s)
	switch m.IntN(14) {
	case 0:
		t.Kind = m.IntN(15) - 1
	case 1:
		t.Lo = m.Int64N(5) - 2
	case 2:
		t.Hi = m.Int64N(5) - 2
	case 3:
		t.Name = pick(m, append(names(), badTexts()...))
	case 4:
		t.Texts = append(t.Texts, pick(m, append(names(), badTexts()...)))
	case 5:
		t.T = append(t.T, pick(m, leaves()))
	case 6:
		t.F = append(t.F, field(pick(m, names()), null()))
	case 7:
		*t = nested(12+m.IntN(9), *t)
	case 8:
		*t = nothings(185 + m.IntN(16))
	case 9:
		*t = union(*t, pick(m, leaves()))
	case 10:
		*t = ref(pick(m, names()))
	case 11:
		*t = oneOf(slices.Repeat([]string{pick(m, append(names(), badTexts()...))}, m.IntN(3))...)
	case 12:
		m.spoilField(t)
	case 13:
		*t = pick(m, []api.Type{oneOf(numbered(199 + m.IntN(3))...), fields(199+m.IntN(3), null())})
	}
}

// typeOf a schema: one of all that are gone through.
func (m maker) typeOf(s *api.Schema) *api.Type {
	if len(s.Defs) > 0 && m.IntN(2) == 0 {
		return m.partOf(&s.Defs[m.IntN(len(s.Defs))].T)
	}
	return m.partOf(&s.Root)
}

func (m maker) spoilDef(s *api.Schema) {
	i, k := m.IntN(len(s.Defs)), m.IntN(len(s.Defs))
	switch m.IntN(5) {
	case 0:
		s.Defs[i].Name = pick(m, append(names(), badTexts()...))
	case 1:
		s.Defs[i], s.Defs[k] = s.Defs[k], s.Defs[i]
	case 2:
		s.Defs = slices.Delete(s.Defs, i, i+1)
	case 3, 4:
		s.Defs[i].T = union(s.Defs[i].T, ref(s.Defs[k].Name))
	}
}

func (m maker) spoilField(t *api.Type) {
	f := field(pick(m, append(names(), badTexts()...)), null())
	f.HasDef = m.IntN(2) == 0
	f.Def = pick(m, []api.Value{{}, {L: []api.Value{}}, number(1), {Kind: 9}, {Kind: api.VText, S: "\xff"}, {Kind: api.VText, S: strings.Repeat("x", 4001)}})
	*t = record(f)
}
