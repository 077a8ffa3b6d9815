package typ_test

import (
	"testing"

	"typecase/api"
	"typecase/typ"
)

// checkBook: are its types those of the model, and is a part of each kind the one that the model tells?
func checkBook(t *testing.T, s api.Schema) {
	t.Helper()
	b, e := typ.Open(s)
	if want := modelCheck(s); e != want {
		t.Errorf("Open(%s) is %d, not %d", brief(s), e, want)
	}
	if e != api.OK {
		return
	}
	all := modelTypes(s)
	types := b.Types()
	if len(types) != len(all) {
		t.Fatalf("%s has %d types, not %d", brief(s), len(types), len(all))
	}
	for i, x := range types {
		if !same(*x, all[i].t) {
			t.Errorf("type %d of %s is %s, not %s", i, brief(s), brief(*x), brief(all[i].t))
		}
		for kind := range 7 {
			checkPartOf(t, b, s, x, kind)
		}
	}
}

func checkPartOf(t *testing.T, b typ.Book, s api.Schema, x *api.Type, kind int) {
	t.Helper()
	var want []api.Type
	for _, p := range modelParts(s, *x) {
		for _, k := range modelKinds(s, p) {
			if k == kind {
				want = append(want, p)
			}
		}
	}
	var told []api.Type
	if p := b.PartOf(x, kind); p != nil {
		told = append(told, *p)
	}
	if !sameTypes(told, want) {
		t.Errorf("of %s and kind %d the part is %s, not %s", brief(*x), kind, brief(told), brief(want))
	}
}

func TestBooks(t *testing.T) {
	m := newMaker(194)
	for i := range 4000 {
		s := m.good()
		if i%4 == 0 {
			m.spoil(&s)
		}
		checkBook(t, s)
		if t.Failed() {
			return
		}
	}
	l := chain(50, "049", func(x api.Type) api.Type { return union(union(), x, union()) })
	l[49].T = union(null(), dict(ref("000")))
	checkBook(t, schema(ref("000"), l...))
}
