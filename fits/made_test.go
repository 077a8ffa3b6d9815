package fits_test

import (
	"fmt"
	"math"
	"math/rand/v2"
	"reflect"
	"slices"
	"strings"

	"typecase/api"
	"typecase/typ"
	"typecase/val"
)

// Types, schemas and values of these tests, and who makes them.

func leaf(kind int) api.Type { return api.Type{Kind: kind} }

func anything() api.Type { return leaf(api.TAny) }

func null() api.Type { return leaf(api.TNull) }

func truth() api.Type { return leaf(api.TBool) }

func fraction() api.Type { return leaf(api.TFloat) }

func whole(lo, hi int64) api.Type { return api.Type{Kind: api.TInt, Lo: lo, Hi: hi} }

func text(lo, hi int64) api.Type { return api.Type{Kind: api.TText, Lo: lo, Hi: hi} }

func oneOf(l ...string) api.Type { return api.Type{Kind: api.TOneOf, Texts: l} }

func list(lo, hi int64, t api.Type) api.Type {
	return api.Type{Kind: api.TList, Lo: lo, Hi: hi, T: []api.Type{t}}
}

func dict(t api.Type) api.Type { return api.Type{Kind: api.TMap, T: []api.Type{t}} }

func record(l ...api.Field) api.Type { return api.Type{Kind: api.TRecord, F: l} }

func union(l ...api.Type) api.Type { return api.Type{Kind: api.TUnion, T: l} }

func ref(name string) api.Type { return api.Type{Kind: api.TRef, Name: name} }

func field(name string, t api.Type) api.Field { return api.Field{Name: name, T: t} }

func opt(name string, t api.Type) api.Field { return api.Field{Name: name, Opt: true, T: t} }

func withDef(name string, t api.Type, v api.Value) api.Field {
	return api.Field{Name: name, HasDef: true, T: t, Def: v}
}

func def(name string, t api.Type) api.Def { return api.Def{Name: name, T: t} }

// schema of a Root and Defs.
func schema(root api.Type, l ...api.Def) api.Schema { return api.Schema{Defs: l, Root: root} }

// number, a value.
func number(n int64) api.Value { return api.Value{Kind: api.VInt, N: n} }

// word, a value.
func word(s string) api.Value { return api.Value{Kind: api.VText, S: s} }

// values: a list of them.
func values(l ...api.Value) api.Value { return api.Value{Kind: api.VList, L: l} }

// at a key: a table of one entry.
func at(key string, v api.Value) api.Value {
	return api.Value{Kind: api.VTable, E: []api.Entry{{Key: key, V: v}}}
}

// nested: a type with so many others around it, one of each Kind that may be around one, in turn.
func nested(around int, t api.Type) api.Type {
	for i := range around {
		switch i % 4 {
		case 0:
			t = dict(t)
		case 1:
			t = union(t)
		case 2:
			t = list(0, 1, t)
		case 3:
			t = record(field("a", t))
		}
	}
	return t
}

// fields: a record of so many, of one type.
func fields(count int, t api.Type) api.Type {
	r := record()
	for i := range count {
		r.F = append(r.F, field(fmt.Sprintf("%03d", i), t))
	}
	return r
}

// fieldsOf all types of a schema that are gone through, in order.
func fieldsOf(s *api.Schema) []*api.Field {
	var l []*api.Field
	var meet func(t *api.Type)
	meet = func(t *api.Type) {
		for i := range t.T {
			meet(&t.T[i])
		}
		for i := range t.F {
			l = append(l, &t.F[i])
			meet(&t.F[i].T)
		}
	}
	for i := range s.Defs {
		meet(&s.Defs[i].T)
	}
	meet(&s.Root)
	return l
}

// sameValue, whether lists that have nothing in them are nil or empty?
func sameValue(v, w api.Value) bool { return reflect.DeepEqual(bareValue(v), bareValue(w)) }

func sameSchemas(s, r api.Schema) bool { return reflect.DeepEqual(bareSchema(s), bareSchema(r)) }

// bare copies: nil for each list that has nothing in it.

func bareValue(v api.Value) api.Value {
	c := v
	c.L, c.E = nil, nil
	for _, x := range v.L {
		c.L = append(c.L, bareValue(x))
	}
	for _, e := range v.E {
		c.E = append(c.E, api.Entry{Key: e.Key, V: bareValue(e.V)})
	}
	return c
}

func bare(t api.Type) api.Type {
	c := t
	c.Texts, c.T, c.F = append([]string(nil), t.Texts...), nil, nil
	for _, x := range t.T {
		c.T = append(c.T, bare(x))
	}
	for _, f := range t.F {
		f.T, f.Def = bare(f.T), bareValue(f.Def)
		c.F = append(c.F, f)
	}
	return c
}

func bareSchema(s api.Schema) api.Schema {
	c := api.Schema{Root: bare(s.Root)}
	for _, d := range s.Defs {
		c.Defs = append(c.Defs, def(d.Name, bare(d.T)))
	}
	return c
}

// roomy copies: behind each list there is room, with something in it.

func roomyValue(v api.Value) api.Value {
	c := bareValue(v)
	for i := range c.L {
		c.L[i] = roomyValue(c.L[i])
	}
	for i := range c.E {
		c.E[i].V = roomyValue(c.E[i].V)
	}
	c.L = append(c.L, number(7), number(7))[:len(v.L)]
	c.E = append(c.E, api.Entry{Key: "behind"}, api.Entry{Key: "behind"})[:len(v.E)]
	return c
}

func roomy(t api.Type) api.Type {
	c := bare(t)
	for i := range c.T {
		c.T[i] = roomy(c.T[i])
	}
	for i := range c.F {
		c.F[i].T, c.F[i].Def = roomy(c.F[i].T), roomyValue(c.F[i].Def)
	}
	c.Texts = append(c.Texts, "behind", "behind")[:len(t.Texts)]
	c.T = append(c.T, ref("behind"), ref("behind"))[:len(t.T)]
	c.F = append(c.F, field("behind", null()), field("behind", null()))[:len(t.F)]
	return c
}

func roomySchema(s api.Schema) api.Schema {
	c := api.Schema{Root: roomy(s.Root)}
	for _, d := range s.Defs {
		c.Defs = append(c.Defs, def(d.Name, roomy(d.T)))
	}
	c.Defs = append(c.Defs, def("behind", null()), def("behind", null()))[:len(s.Defs)]
	return c
}

// rooms: copies, with what stands behind the lists.

func roomOfValue(v api.Value) api.Value {
	c := v
	c.L, c.E = nil, nil
	for _, x := range v.L[:cap(v.L)] {
		c.L = append(c.L, roomOfValue(x))
	}
	for _, e := range v.E[:cap(v.E)] {
		c.E = append(c.E, api.Entry{Key: e.Key, V: roomOfValue(e.V)})
	}
	return c
}

func roomOf(t api.Type) api.Type {
	c := t
	c.Texts, c.T, c.F = slices.Clone(t.Texts[:cap(t.Texts)]), nil, nil
	for _, x := range t.T[:cap(t.T)] {
		c.T = append(c.T, roomOf(x))
	}
	for _, f := range t.F[:cap(t.F)] {
		f.T, f.Def = roomOf(f.T), roomOfValue(f.Def)
		c.F = append(c.F, f)
	}
	return c
}

func roomOfSchema(s api.Schema) api.Schema {
	c := api.Schema{Root: roomOf(s.Root)}
	for _, d := range s.Defs[:cap(s.Defs)] {
		c.Defs = append(c.Defs, def(d.Name, roomOf(d.T)))
	}
	return c
}

// scribble over all memory of a type, the room behind its lists included.

func scribbleValue(v *api.Value) {
	for i := range v.L[:cap(v.L)] {
		scribbleValue(&v.L[:cap(v.L)][i])
	}
	for i := range v.E[:cap(v.E)] {
		scribbleValue(&v.E[:cap(v.E)][i].V)
		v.E[:cap(v.E)][i].Key = "scribble"
	}
	*v = api.Value{Kind: -7, N: 7, F: 7, S: "scribble"}
}

func scribble(t *api.Type) {
	for i := range t.Texts[:cap(t.Texts)] {
		t.Texts[:cap(t.Texts)][i] = "scribble"
	}
	for i := range t.T[:cap(t.T)] {
		scribble(&t.T[:cap(t.T)][i])
	}
	for i := range t.F[:cap(t.F)] {
		f := &t.F[:cap(t.F)][i]
		scribble(&f.T)
		scribbleValue(&f.Def)
		*f = api.Field{Name: "scribble", Opt: true}
	}
	*t = api.Type{Kind: -7, Lo: 7, Hi: 7, Name: "scribble"}
}

func scribbleSchema(s api.Schema) {
	for i := range s.Defs[:cap(s.Defs)] {
		d := &s.Defs[:cap(s.Defs)][i]
		scribble(&d.T)
		d.Name = "scribble"
	}
	scribble(&s.Root)
}

// maker of schemas and values; the same ones in each run.
type maker struct{ *rand.Rand }

func newMaker(seed uint64) maker { return maker{rand.New(rand.NewPCG(20, seed))} }

func pick[T any](m maker, l []T) T { return l[m.IntN(len(l))] }

// names, rising.
func names() []string { return []string{"", "a", "a\x00", "b", "é"} }

// some of the names, rising.
func (m maker) some() []string {
	var l []string
	for _, n := range names() {
		if m.IntN(2) > 0 {
			l = append(l, n)
		}
	}
	return l
}

// leaves: types without parts within, of each Kind that has none.
func leaves() []api.Type {
	return []api.Type{anything(), null(), truth(), whole(0, 0), whole(-3, 4), whole(math.MinInt64, math.MaxInt64), fraction(), text(0, 0), text(0, 2), text(1, math.MaxInt64), oneOf(""), oneOf("a", "b", "é"), record(), union()}
}

// good schema. Its Defs are made from the last one to the first: what stands in a union tells only names whose kinds are known.
func (m maker) good() api.Schema {
	for {
		var s api.Schema
		all := m.some()
		for _, name := range slices.Backward(all) {
			t := m.typ(s, all, 1+m.IntN(3))
			s.Defs = slices.Insert(s.Defs, 0, def(name, t))
		}
		s.Root = m.typ(s, all, 1+m.IntN(4))
		m.fillIn(s)
		if typ.Check(s) == api.OK {
			return s
		}
	}
}

// typ that is good, at most so deep, and comes to names that s has alone; within others it may tell each of all.
func (m maker) typ(s api.Schema, all []string, deep int) api.Type {
	kind := 1 + m.IntN(12)
	switch {
	case kind == api.TRef && len(s.Defs) > 0:
		return ref(pick(m, s.Defs).Name)
	case deep > 1 && kind == api.TList:
		lo := m.Int64N(2)
		return list(lo, lo+m.Int64N(3), m.part(s, all, deep-1))
	case deep > 1 && kind == api.TMap:
		return dict(m.part(s, all, deep-1))
	case deep > 1 && kind == api.TRecord, deep > 1 && kind == api.TFloat:
		r := record()
		for _, name := range m.some() {
			r.F = append(r.F, api.Field{Name: name, Opt: m.IntN(3) == 0, HasDef: m.IntN(3) == 0, T: m.part(s, all, deep-1)})
		}
		return r
	case deep > 1 && (kind == api.TUnion || kind == api.TAny || kind == api.TNull):
		return m.union(s, all, deep)
	}
	return pick(m, leaves())
}

// part within a list, a map or a record.
func (m maker) part(s api.Schema, all []string, deep int) api.Type {
	if len(all) > 0 && m.IntN(3) == 0 {
		return ref(pick(m, all))
	}
	return m.typ(s, all, deep)
}

func (m maker) union(s api.Schema, all []string, deep int) api.Type {
	u := union()
	for range m.IntN(7) {
		more := union(append(slices.Clone(u.T), m.typ(s, all, deep-1))...)
		// Names within are not known yet, and clash with nothing.
		if e := typ.Check(schema(more, unknown(s, all)...)); e != api.ErrClash {
			u = more
		}
	}
	return u
}

// unknown names, of all, stand beside those of s, and come to nothing.
func unknown(s api.Schema, all []string) []api.Def {
	var l []api.Def
	for _, name := range all {
		i := slices.IndexFunc(s.Defs, func(d api.Def) bool { return d.Name == name })
		if i < 0 {
			l = append(l, def(name, union()))
		} else {
			l = append(l, s.Defs[i])
		}
	}
	return l
}

// fillIn the Defs of fields that have one, with values that are FULL; where there is none so deep, the field has no Def any more.
func (m maker) fillIn(s api.Schema) {
	for _, f := range fieldsOf(&s) {
		if f.HasDef {
			f.Def, f.HasDef = m.value(s, f.T, 4, true)
		}
	}
}

// value that fits a type, at most so deep, or none. If it is to be full, it has an entry of each field with a Def, too.
func (m maker) value(s api.Schema, t api.Type, deep int, full bool) (api.Value, bool) {
	if deep == 0 {
		return api.Value{}, false
	}
	parts := modelParts(s, t)
	m.Shuffle(len(parts), func(i, k int) { parts[i], parts[k] = parts[k], parts[i] })
	for _, p := range parts {
		if v, ok := m.valueOf(s, p, deep, full); ok {
			return v, true
		}
	}
	return api.Value{}, false
}

func (m maker) valueOf(s api.Schema, t api.Type, deep int, full bool) (api.Value, bool) {
	switch t.Kind {
	case api.TAny:
		return pick(m, anyValues()), true
	case api.TBool:
		return api.Value{Kind: api.VBool, N: m.Int64N(2)}, true
	case api.TInt:
		return number(pick(m, []int64{t.Lo, t.Hi, t.Lo + (t.Hi-t.Lo)/2})), true
	case api.TFloat:
		return api.Value{Kind: api.VFloat, F: pick(m, []uint64{0, 1 << 63, 1})}, true
	case api.TText:
		return word(strings.Repeat(pick(m, []string{"a", "é"}), int(m.between(t.Lo, t.Hi)))), true
	case api.TOneOf:
		return word(pick(m, t.Texts)), true
	case api.TList:
		return m.list(s, t, deep, full)
	case api.TMap:
		return m.table(t.T[0], s, m.some(), deep, full), true
	case api.TRecord:
		return m.record(s, t, deep, full)
	}
	return api.Value{}, true
}

// between Lo and Hi, but not far above Lo.
func (m maker) between(lo, hi int64) int64 { return lo + m.Int64N(1+min(hi-lo, 2)) }

func (m maker) list(s api.Schema, t api.Type, deep int, full bool) (api.Value, bool) {
	v := values()
	for range m.between(t.Lo, t.Hi) {
		x, ok := m.value(s, t.T[0], deep-1, full)
		if !ok {
			return v, t.Lo == 0
		}
		v.L = append(v.L, x)
	}
	return v, true
}

func (m maker) table(t api.Type, s api.Schema, keys []string, deep int, full bool) api.Value {
	v := api.Value{Kind: api.VTable}
	for _, key := range keys {
		if x, ok := m.value(s, t, deep-1, full); ok {
			v.E = append(v.E, api.Entry{Key: key, V: x})
		}
	}
	return v
}

func (m maker) record(s api.Schema, t api.Type, deep int, full bool) (api.Value, bool) {
	v := api.Value{Kind: api.VTable}
	for _, f := range t.F {
		must := f.HasDef && full || !f.HasDef && !f.Opt
		if !must && m.IntN(2) == 0 {
			continue
		}
		x, ok := m.value(s, f.T, deep-1, full)
		if ok {
			v.E = append(v.E, api.Entry{Key: f.Name, V: x})
		} else if must {
			return v, false
		}
	}
	return v, true
}

// anyValues: some of each kind.
func anyValues() []api.Value {
	return []api.Value{{}, {Kind: api.VBool}, number(-3), number(5), {Kind: api.VFloat, F: 1}, word(""), word("é"), word("abc"), values(), values(number(1), values()), values(word("a")), {Kind: api.VTable}, at("a", api.Value{}), at("b", at("a", number(1)))}
}

// partOf a value: itself, or one of those within.
func (m maker) partOf(v *api.Value) *api.Value {
	var l []*api.Value
	for i := range v.L {
		l = append(l, &v.L[i])
	}
	for i := range v.E {
		l = append(l, &v.E[i].V)
	}
	if len(l) == 0 || m.IntN(6) == 0 {
		return v
	}
	return m.partOf(pick(m, l))
}

// change something of a value, or within it, which stays good.
func (m maker) change(v *api.Value) {
	v = m.partOf(v)
	switch i := m.IntN(4); {
	case i > 0 && v.Kind == api.VInt:
		v.N += m.Int64N(9) - 4
	case i > 0 && v.Kind == api.VText:
		v.S += pick(m, []string{"a", "é", "aa"})
	case i > 1 && len(v.L) > 0:
		v.L = slices.Delete(v.L, 0, 1)
	case i > 0 && v.Kind == api.VList:
		v.L = append(v.L, pick(m, anyValues()))
	case i > 1 && len(v.E) > 0:
		v.E = val.Drop(v.E, pick(m, v.E).Key)
	case i > 0 && v.Kind == api.VTable:
		v.E = val.Put(v.E, pick(m, names()), pick(m, anyValues()))
	default:
		*v = pick(m, anyValues())
	}
}
