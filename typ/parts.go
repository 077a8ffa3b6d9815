package typ

import (
	"typecase/api"
	"typecase/val"
)

// kinds of values: bit k stands for kind k.
type kinds uint8

const (
	allKinds kinds = 1<<(api.VTable+1) - 1
	// endless stands beside the kinds, of what comes to itself.
	endless kinds = 1 << (api.VTable + 1)
)

// list of kinds, rising.
func (k kinds) list() []int {
	var l []int
	for kind := range api.VTable + 1 {
		if k&(1<<kind) != 0 {
			l = append(l, kind)
		}
	}
	return l
}

// kindsOf a type.
func (c *checker) kindsOf(t *api.Type) kinds {
	switch t.Kind {
	case api.TRef:
		return c.kindsOfName(t.Name)
	case api.TUnion:
		var all kinds
		for i := range t.T {
			all |= c.kindsOf(&t.T[i])
		}
		return all
	}
	return kindsAlone(t.Kind)
}

// kindsOfName of a Def. It is gone into once only: names that each tell the next one twice would double its ways from name to name.
func (c *checker) kindsOfName(name string) kinds {
	own, there := c.seen[name]
	if !there {
		// Who comes back to the name ahead of its end finds this.
		c.seen[name] = endless
		own = c.kindsOf(c.typeOf(name))
		c.seen[name] = own
	}
	return own
}

// kindsAlone of a type's Kind that comes to nothing else.
func kindsAlone(kind int) kinds {
	switch kind {
	case api.TAny:
		return allKinds
	case api.TNull:
		return 1 << api.VNull
	case api.TBool:
		return 1 << api.VBool
	case api.TInt:
		return 1 << api.VInt
	case api.TFloat:
		return 1 << api.VFloat
	case api.TText, api.TOneOf:
		return 1 << api.VText
	case api.TList:
		return 1 << api.VList
	case api.TMap, api.TRecord:
		return 1 << api.VTable
	}
	return 0
}

// elementOf a union, that one which has the kind: there is one.
func (c *checker) elementOf(union *api.Type, kind kinds) *api.Type {
	i := 0
	for c.kindsOf(&union.T[i])&kind == 0 {
		i++
	}
	return &union.T[i]
}

// partsOf a type of a checked schema, copied.
func (c *checker) partsOf(t *api.Type) []api.Type {
	// What has no kinds has no parts, however often it is told; and what has some is told once, or there would be a clash.
	if c.kindsOf(t) == 0 {
		return nil
	}
	switch t.Kind {
	case api.TRef:
		return c.partsOf(c.typeOf(t.Name))
	case api.TUnion:
		var l []api.Type
		for i := range t.T {
			l = append(l, c.partsOf(&t.T[i])...)
		}
		return l
	}
	return []api.Type{copyOf(*t)}
}

// copyOf a type of a checked schema, in memory of its own.
func copyOf(t api.Type) api.Type {
	t.Texts = append([]string(nil), t.Texts...)
	t.T = append([]api.Type(nil), t.T...)
	t.F = append([]api.Field(nil), t.F...)
	for i := range t.F {
		t.F[i].Def = val.Copy(t.F[i].Def)
	}
	for part := range within(&t) {
		*part = copyOf(*part)
	}
	return t
}
