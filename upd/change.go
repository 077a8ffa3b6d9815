package upd

import (
	"slices"

	"typecase/api"
	"typecase/path"
	"typecase/val"
)

// changer of what a path leads to, in its place.
type changer func(here *api.Value) api.Errno

// changeAt: what p leads to in v is changed by the function.
func changeAt(v *api.Value, p []api.Step, by changer) api.Errno {
	if _, e := path.Get(*v, p); e != api.OK {
		return e
	}
	here := v
	for _, step := range p {
		here = partAt(here, step)
	}
	return by(here)
}

// partAt a step, which path.Get has taken: so there is one.
func partAt(v *api.Value, step api.Step) *api.Value {
	if step.I == path.OfKey {
		return &v.E[val.Find(v.E, step.Key)].V
	}
	return &v.L[step.I]
}

// cutLast step off a path that has one.
func cutLast(p []api.Step) ([]api.Step, api.Step) {
	last := len(p) - 1
	return p[:last], p[last]
}

// change v by an update that check takes.
func change(v *api.Value, o api.Op) api.Errno {
	switch o.Kind {
	case api.USet:
		return changeAt(v, o.P, setting(o.V))
	case api.UAdd:
		above, last := cutLast(o.P)
		return changeAt(v, above, adding(last, o.V))
	}
	// What is to go, or to have another name, must be there.
	was, e := path.Get(*v, o.P)
	if e != api.OK {
		return e
	}
	above, last := cutLast(o.P)
	if o.Kind == api.UDrop {
		return changeAt(v, above, dropping(last))
	}
	return changeAt(v, above, naming(last, o.Key, was))
}

func setting(v api.Value) changer {
	return func(here *api.Value) api.Errno {
		*here = val.Copy(v)
		return api.OK
	}
}

func adding(at api.Step, v api.Value) changer {
	if at.I == path.OfKey {
		return func(here *api.Value) api.Errno { return addEntry(here, at.Key, v) }
	}
	return func(here *api.Value) api.Errno { return addElement(here, at.I, v) }
}

func addEntry(table *api.Value, key string, v api.Value) api.Errno {
	if table.Kind != api.VTable {
		return api.ErrKind
	}
	if val.Find(table.E, key) >= 0 {
		return api.ErrThere
	}
	table.E = val.Put(table.E, key, v)
	return api.OK
}

func addElement(list *api.Value, at int, v api.Value) api.Errno {
	if list.Kind != api.VList {
		return api.ErrKind
	}
	if at > len(list.L) {
		return api.ErrNone
	}
	list.L = slices.Insert(list.L, at, val.Copy(v))
	return api.OK
}

func dropping(at api.Step) changer {
	return func(here *api.Value) api.Errno {
		if at.I == path.OfKey {
			here.E = val.Drop(here.E, at.Key)
		} else {
			here.L = slices.Delete(here.L, at.I, at.I+1)
		}
		return api.OK
	}
}

// naming the entry of a step, whose value was that, by another key: it stands where that key has it stand.
func naming(at api.Step, key string, was api.Value) changer {
	return func(here *api.Value) api.Errno {
		if at.I != path.OfKey {
			return api.ErrKind
		}
		if key != at.Key && val.Find(here.E, key) >= 0 {
			return api.ErrThere
		}
		here.E = val.Put(val.Drop(here.E, at.Key), key, was)
		return api.OK
	}
}
