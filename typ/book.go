package typ

import "typecase/api"

// Book of a schema that passes Check, in which types are looked up. It tells them where they stand in the schema, and copies none: what is told is only read, and not handed out.
type Book struct{ c *checker }

// Open a schema.
func Open(s api.Schema) (Book, api.Errno) {
	c := newChecker(s)
	if e := c.check(); e != api.OK {
		return Book{}, e
	}
	return Book{c}, api.OK
}

// Types of the schema that are gone through, in order.
func (b Book) Types() []*api.Type { return b.c.types }

// PartOf a type, that one which tells values of a kind: nil, if none does. There are no two, or they would clash.
func (b Book) PartOf(t *api.Type, kind int) *api.Type {
	own := kinds(1) << kind
	if b.c.kindsOf(t)&own == 0 {
		return nil
	}
	for {
		switch t.Kind {
		case api.TRef:
			t = b.c.typeOf(t.Name)
		case api.TUnion:
			t = b.c.elementOf(t, own)
		default:
			return t
		}
	}
}
