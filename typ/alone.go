package typ

import (
	"iter"

	"typecase/api"
	"typecase/val"
)

// within a type: its parts, in order.
func within(t *api.Type) iter.Seq[*api.Type] {
	return func(yield func(*api.Type) bool) {
		for i := range t.T {
			if !yield(&t.T[i]) {
				return
			}
		}
		for i := range t.F {
			if !yield(&t.F[i].T) {
				return
			}
		}
	}
}

// checkAlone a type without its parts within.
func (c *checker) checkAlone(t *api.Type) api.Errno {
	switch {
	case !isOfItsKind(t):
		return api.ErrKind
	case t.Lo > t.Hi:
		return api.ErrRange
	case t.Lo < 0 && (t.Kind == api.TText || t.Kind == api.TList):
		return api.ErrRange
	}
	switch t.Kind {
	case api.TOneOf:
		return checkTexts(t.Texts)
	case api.TRecord:
		return checkFields(t.F)
	case api.TRef:
		if _, there := c.places[t.Name]; !there {
			return api.ErrNone
		}
	}
	return api.OK
}

// isOfItsKind: has t, beside what its Kind has, nothing?
func isOfItsKind(t *api.Type) bool {
	beside := *t
	switch t.Kind {
	case api.TAny, api.TNull, api.TBool, api.TFloat:
	case api.TInt, api.TText:
		beside.Lo, beside.Hi = 0, 0
	case api.TOneOf:
		beside.Texts = nil
	case api.TList:
		beside.Lo, beside.Hi, beside.T = 0, 0, nil
	case api.TMap, api.TUnion:
		beside.T = nil
	case api.TRecord:
		beside.F = nil
	case api.TRef:
		beside.Name = ""
	default:
		return false
	}
	if (t.Kind == api.TList || t.Kind == api.TMap) && len(t.T) != 1 {
		return false
	}
	return beside.Lo == 0 && beside.Hi == 0 && beside.Name == "" && len(beside.Texts) == 0 && len(beside.T) == 0 && len(beside.F) == 0
}

func checkTexts(l []string) api.Errno {
	switch {
	case len(l) == 0:
		return api.ErrForm
	case len(l) > api.MaxList:
		return api.ErrLarge
	}
	for i := range l {
		if e := checkText(i, func(k int) string { return l[k] }); e != api.OK {
			return e
		}
	}
	return api.OK
}

func checkFields(l []api.Field) api.Errno {
	if len(l) > api.MaxList {
		return api.ErrLarge
	}
	for i := range l {
		if e := checkName(i, func(k int) string { return l[k].Name }); e != api.OK {
			return e
		}
		if e := val.Check(l[i].Def); e != api.OK {
			return e
		}
		if !l[i].HasDef && val.Compare(l[i].Def, api.Value{}) != 0 {
			return api.ErrKind
		}
	}
	return api.OK
}
