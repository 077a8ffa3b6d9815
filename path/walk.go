package path

import (
	"iter"
	"slices"

	"typecase/api"
	"typecase/val"
)

// maxPaths: so many are told of one value, and no more.
const maxPaths = 1000

// partAt a step of a value, which may be none that is good.
func partAt(v *api.Value, step api.Step) (*api.Value, api.Errno) {
	if step.I == OfKey {
		return entryAt(v, step.Key)
	}
	return elementAt(v, step.I)
}

func entryAt(v *api.Value, key string) (*api.Value, api.Errno) {
	if v.Kind != api.VTable {
		return nil, api.ErrKind
	}
	at := val.Find(v.E, key)
	if at < 0 {
		return nil, api.ErrNone
	}
	return &v.E[at].V, api.OK
}

func elementAt(v *api.Value, at int) (*api.Value, api.Errno) {
	if v.Kind != api.VList {
		return nil, api.ErrKind
	}
	if at >= len(v.L) {
		return nil, api.ErrNone
	}
	return &v.L[at], api.OK
}

// parts of a value, in order, each with the step that leads to it. Of one that is not good, too, elements and entries are parts, whatever its Kind.
func parts(v *api.Value) iter.Seq2[api.Step, *api.Value] {
	return func(yield func(api.Step, *api.Value) bool) {
		for i := range v.L {
			if !yield(api.Step{I: i}, &v.L[i]) {
				return
			}
		}
		for i := range v.E {
			if !yield(api.Step{Key: v.E[i].Key, I: OfKey}, &v.E[i].V) {
				return
			}
		}
	}
}

// walker through a value: the paths to where it has been, and the one to where it is.
type walker struct {
	paths [][]api.Step
	here  []api.Step
}

// visit a value and its parts. There are no more calls within calls than paths, however deep a value is.
func (w *walker) visit(v *api.Value) {
	w.paths = append(w.paths, slices.Clone(w.here))
	for step, part := range parts(v) {
		if len(w.paths) == maxPaths {
			return
		}
		w.here = append(w.here, step)
		w.visit(part)
		w.here = w.here[:len(w.here)-1]
	}
}
