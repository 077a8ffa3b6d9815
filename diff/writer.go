package diff

import (
	"slices"

	"typecase/api"
	"typecase/path"
	"typecase/val"
)

// writer of updates: those that it has told, and the path to where it is.
type writer struct {
	told []api.Op
	here []api.Step
}

// way from a, which is what is here, to b: it costs what far tells of them.
func (w *writer) way(a, b api.Value) {
	switch {
	case val.Compare(a, b) == 0:
	case both(a, b, api.VTable):
		w.tables(a.E, b.E)
	case both(a, b, api.VList):
		w.lists(a.L, b.L)
	default:
		w.tell(api.USet, b)
	}
}

func (w *writer) tables(a, b []api.Entry) {
	for p := range pairs(a, b) {
		w.at(api.Step{Key: p.key, I: path.OfKey}, func() {
			switch {
			case p.b == nil:
				w.tell(api.UDrop, api.Value{})
			case p.a == nil:
				w.tell(api.UAdd, *p.b)
			default:
				w.way(*p.a, *p.b)
			}
		})
	}
}

// lists are gone through from the end: so what has been told leaves the elements that are still to come at their places.
func (w *writer) lists(a, b []api.Value) {
	g := newGrid(a, b)
	i, k := len(a), len(b)
	for i+k > 0 {
		switch g[i][k].last {
		case becomes:
			i, k = i-1, k-1
			w.at(api.Step{I: i}, func() { w.way(a[i], b[k]) })
		case goes:
			i--
			w.at(api.Step{I: i}, func() { w.tell(api.UDrop, api.Value{}) })
		case comes:
			k--
			w.at(api.Step{I: i}, func() { w.tell(api.UAdd, b[k]) })
		}
	}
}

// at a step from here the function is done.
func (w *writer) at(step api.Step, do func()) {
	w.here = append(w.here, step)
	do()
	w.here = w.here[:len(w.here)-1]
}

// tell an update of what is here. What it is told with is its own.
func (w *writer) tell(kind int, v api.Value) {
	w.told = append(w.told, api.Op{Kind: kind, P: slices.Clone(w.here), V: val.Copy(v)})
}
