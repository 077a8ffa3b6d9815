package typ

import (
	"typecase/api"
	"typecase/utf"
)

// checker of a schema, which is a part of it.
type checker struct {
	api.Schema
	// places of Defs, by their names.
	places map[string]int
	// seen names, with the kinds of values of their types.
	seen map[string]kinds
	// types that were gone through, in order.
	types []*api.Type
}

func newChecker(s api.Schema) *checker {
	return &checker{Schema: s, places: map[string]int{}, seen: map[string]kinds{}}
}

// check one thing behind the other: each one may lean on those ahead of it.
func (c *checker) check() api.Errno {
	for _, one := range []func() api.Errno{c.checkNames, c.checkTypes, c.checkEnds, c.checkUnions} {
		if e := one(); e != api.OK {
			return e
		}
	}
	return api.OK
}

// typeOf a Def's name.
func (c *checker) typeOf(name string) *api.Type {
	return &c.Defs[c.places[name]].T
}

func (c *checker) checkNames() api.Errno {
	if len(c.Defs) > api.MaxDefs {
		return api.ErrLarge
	}
	for i := range c.Defs {
		if e := checkName(i, func(k int) string { return c.Defs[k].Name }); e != api.OK {
			return e
		}
		c.places[c.Defs[i].Name] = i
	}
	return api.OK
}

// checkName at place i among names that are told by their places.
func checkName(i int, told func(int) string) api.Errno {
	if len(told(i)) > api.MaxKey {
		return api.ErrLarge
	}
	return checkText(i, told)
}

// checkText at place i among texts that are told by their places: is it good, and above the one ahead?
func checkText(i int, told func(int) string) api.Errno {
	switch {
	case utf.Bad(told(i)) >= 0:
		return api.ErrText
	case i > 0 && told(i) <= told(i-1):
		return api.ErrOrder
	}
	return api.OK
}

func (c *checker) checkTypes() api.Errno {
	for i := range c.Defs {
		if e := c.goThrough(&c.Defs[i].T, 0); e != api.OK {
			return e
		}
	}
	return c.goThrough(&c.Root, 0)
}

// goThrough a type that has so many around it, and then its parts within.
func (c *checker) goThrough(t *api.Type, around int) api.Errno {
	c.types = append(c.types, t)
	if len(c.types) > api.MaxTypes {
		return api.ErrLarge
	}
	if around >= api.MaxDeep {
		return api.ErrDeep
	}
	if e := c.checkAlone(t); e != api.OK {
		return e
	}
	for part := range within(t) {
		if e := c.goThrough(part, around+1); e != api.OK {
			return e
		}
	}
	return api.OK
}

// checkEnds: does what the names come to come to an end?
func (c *checker) checkEnds() api.Errno {
	for i := range c.Defs {
		if c.kindsOfName(c.Defs[i].Name)&endless != 0 {
			return api.ErrType
		}
	}
	return api.OK
}

// checkUnions by their elements alone: two parts to which one element leads come by two elements of a union further in, or of one that a name leads to, and that one is gone through, too.
func (c *checker) checkUnions() api.Errno {
	for _, t := range c.types {
		if t.Kind == api.TUnion && c.clash(t.T) {
			return api.ErrClash
		}
	}
	return api.OK
}

// clash of two types of a list: have they a common kind?
func (c *checker) clash(l []api.Type) bool {
	var all kinds
	for i := range l {
		own := c.kindsOf(&l[i])
		if all&own != 0 {
			return true
		}
		all |= own
	}
	return false
}
