package fits_test

import (
	"slices"

	"typecase/api"
	"typecase/typ"
	"typecase/val"
)

// The reference of these tests: each promise's words, with PARTS written out as often as they are told, and each value held against all of them.

// modelDef: the place of the Def of that name.
func modelDef(s api.Schema, name string) int {
	return slices.IndexFunc(s.Defs, func(d api.Def) bool { return d.Name == name })
}

// modelParts of a type by P192's words.
func modelParts(s api.Schema, t api.Type) []api.Type {
	switch t.Kind {
	case 12:
		return modelParts(s, s.Defs[modelDef(s, t.Name)].T)
	case 11:
		var l []api.Type
		for _, x := range t.T {
			l = append(l, modelParts(s, x)...)
		}
		return l
	}
	return []api.Type{t}
}

// modelFits by P200's words; with full, is it FULL?
func modelFits(s api.Schema, t api.Type, v api.Value, full bool) bool {
	return slices.ContainsFunc(modelParts(s, t), func(p api.Type) bool { return modelFitsPart(s, p, v, full) })
}

func modelFitsPart(s api.Schema, p api.Type, v api.Value, full bool) bool {
	element := func(x api.Value) bool { return modelFits(s, p.T[0], x, full) }
	size := func(n int) bool { return int64(n) >= p.Lo && int64(n) <= p.Hi }
	switch {
	case p.Kind == 1:
		return true
	case p.Kind == 2:
		return v.Kind == 0
	case p.Kind == 3:
		return v.Kind == 1
	case p.Kind == 4:
		return v.Kind == 2 && v.N >= p.Lo && v.N <= p.Hi
	case p.Kind == 5:
		return v.Kind == 3
	case p.Kind == 6:
		return v.Kind == 4 && size(len([]rune(v.S)))
	case p.Kind == 7:
		return v.Kind == 4 && slices.Contains(p.Texts, v.S)
	case p.Kind == 8:
		return v.Kind == 5 && size(len(v.L)) && all(v.L, element)
	case p.Kind == 9:
		return v.Kind == 6 && all(v.E, func(e api.Entry) bool { return element(e.V) })
	}
	return v.Kind == 6 && all(v.E, func(e api.Entry) bool { return modelEntry(s, p, e, full) }) &&
		all(p.F, func(f api.Field) bool { return !modelMust(f, full) || modelHas(v, f.Name) })
}

func all[T any](l []T, is func(T) bool) bool {
	return !slices.ContainsFunc(l, func(x T) bool { return !is(x) })
}

// modelEntry: has it the Name of a field, and a value that fits?
func modelEntry(s api.Schema, record api.Type, e api.Entry, full bool) bool {
	return slices.ContainsFunc(record.F, func(f api.Field) bool { return f.Name == e.Key && modelFits(s, f.T, e.V, full) })
}

// modelMust: must there be an entry of the field?
func modelMust(f api.Field, full bool) bool {
	return !f.Opt && !f.HasDef || f.HasDef && full
}

func modelHas(v api.Value, key string) bool {
	return slices.ContainsFunc(v.E, func(e api.Entry) bool { return e.Key == key })
}

// modelCheck by P201's words.
func modelCheck(s api.Schema) api.Errno {
	if e := typ.Check(s); e != api.OK {
		return e
	}
	for _, f := range fieldsOf(&s) {
		if f.HasDef && !modelFits(s, f.T, f.Def, true) {
			return api.ErrFit
		}
	}
	return api.OK
}

// modelKind of values that a part tells: -1, if all.
func modelKind(p api.Type) int {
	return []int{0, -1, 0, 1, 2, 3, 4, 4, 5, 6, 6}[p.Kind]
}

// modelWhy by P201's words, of a value that does not fit.
func modelWhy(s api.Schema, t api.Type, v api.Value) []api.Step {
	for _, p := range modelParts(s, t) {
		if k := modelKind(p); k == -1 || k == v.Kind {
			return modelWhyPart(s, p, v)
		}
	}
	return nil
}

func modelWhyPart(s api.Schema, p api.Type, v api.Value) []api.Step {
	switch p.Kind {
	case 8:
		if int64(len(v.L)) < p.Lo || int64(len(v.L)) > p.Hi {
			return nil
		}
		for i, x := range v.L {
			if !modelFits(s, p.T[0], x, false) {
				return append([]api.Step{{I: i}}, modelWhy(s, p.T[0], x)...)
			}
		}
	case 9:
		for _, e := range v.E {
			if !modelFits(s, p.T[0], e.V, false) {
				return append([]api.Step{{Key: e.Key, I: -1}}, modelWhy(s, p.T[0], e.V)...)
			}
		}
	case 10:
		for _, e := range v.E {
			to := []api.Step{{Key: e.Key, I: -1}}
			i := slices.IndexFunc(p.F, func(f api.Field) bool { return f.Name == e.Key })
			if i < 0 {
				return to
			}
			if !modelFits(s, p.F[i].T, e.V, false) {
				return append(to, modelWhy(s, p.F[i].T, e.V)...)
			}
		}
	}
	return nil
}

// modelJudge: all that is told of a schema and a value.
func modelJudge(s api.Schema, v api.Value) ([]api.Step, bool, api.Errno) {
	if e := modelCheck(s); e != api.OK {
		return nil, false, e
	}
	if e := val.Check(v); e != api.OK {
		return nil, false, e
	}
	if modelFits(s, s.Root, v, false) {
		return nil, true, api.OK
	}
	return modelWhy(s, s.Root, v), false, api.OK
}
