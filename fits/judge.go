package fits

import (
	"slices"
	"strings"
	"unicode/utf8"

	"typecase/api"
	"typecase/path"
	"typecase/typ"
	"typecase/val"
)

// judge who holds good values against types of a schema.
type judge struct {
	typ.Book
	// full: fields with a Def may not be left out either.
	full bool
	// way to the value that was held last, while values fit; then it stays where it went wrong.
	way []api.Step
}

// newJudge by a schema that passes Check.
func newJudge(s api.Schema) (*judge, api.Errno) {
	book, e := typ.Open(s)
	if e != api.OK {
		return nil, e
	}
	for _, t := range book.Types() {
		if !defsAreFull(book, t) {
			return nil, api.ErrFit
		}
	}
	return &judge{Book: book}, api.OK
}

// defsAreFull: of a type's own fields, not of those within.
func defsAreFull(book typ.Book, t *api.Type) bool {
	j := judge{Book: book, full: true}
	for i := range t.F {
		f := &t.F[i]
		if f.HasDef && !j.fits(&f.T, &f.Def) {
			return false
		}
	}
	return true
}

// fits: does v?
func (j *judge) fits(t *api.Type, v *api.Value) bool {
	t = j.PartOf(t, v.Kind)
	if t == nil {
		return false
	}
	switch t.Kind {
	case api.TInt:
		return isBetween(t, v.N)
	case api.TText:
		return isBetween(t, int64(utf8.RuneCountInString(v.S)))
	case api.TOneOf:
		_, there := slices.BinarySearch(t.Texts, v.S)
		return there
	case api.TList:
		return isBetween(t, int64(len(v.L))) && j.elementsFit(&t.T[0], v.L)
	case api.TMap:
		return j.entriesFit(v.E, func(string) *api.Type { return &t.T[0] })
	case api.TRecord:
		return j.entriesFit(v.E, func(key string) *api.Type { return typeOfField(t.F, key) }) && j.areThere(t.F, v.E)
	}
	return true
}

// isBetween Lo and Hi of a type?
func isBetween(t *api.Type, n int64) bool { return t.Lo <= n && n <= t.Hi }

func (j *judge) elementsFit(t *api.Type, l []api.Value) bool {
	for i := range l {
		if !j.stepFits(api.Step{I: i}, t, &l[i]) {
			return false
		}
	}
	return true
}

// entriesFit the types that are told by their keys: nil, where there may be none.
func (j *judge) entriesFit(l []api.Entry, told func(string) *api.Type) bool {
	for i := range l {
		if !j.stepFits(api.Step{Key: l[i].Key, I: path.OfKey}, told(l[i].Key), &l[i].V) {
			return false
		}
	}
	return true
}

// stepFits: does v, one step further on?
func (j *judge) stepFits(step api.Step, t *api.Type, v *api.Value) bool {
	j.way = append(j.way, step)
	if t == nil || !j.fits(t, v) {
		return false
	}
	j.way = j.way[:len(j.way)-1]
	return true
}

// typeOfField of that name: nil, if there is none.
func typeOfField(l []api.Field, name string) *api.Type {
	i, there := slices.BinarySearchFunc(l, name, func(f api.Field, name string) int { return strings.Compare(f.Name, name) })
	if !there {
		return nil
	}
	return &l[i].T
}

// areThere: has each field that may not be left out an entry?
func (j *judge) areThere(fields []api.Field, l []api.Entry) bool {
	for _, f := range fields {
		if j.mustBe(f) && val.Find(l, f.Name) < 0 {
			return false
		}
	}
	return true
}

func (j *judge) mustBe(f api.Field) bool {
	if f.HasDef {
		return j.full
	}
	return !f.Opt
}
