package merge

import (
	"slices"

	"typecase/api"
	"typecase/path"
)

// merger of three: the paths at which they clash, and the one to where it is.
type merger struct {
	clashes [][]api.Step
	here    []api.Step
}

// merged of three that are here; nil if there is none of it, or if they clash. Its parts are still those of the three.
func (m *merger) merged(t three) *api.Value {
	switch {
	case same(t.a, t.b):
		return t.a
	case same(t.a, t.base):
		return t.b
	case same(t.b, t.base):
		return t.a
	case t.areTables():
		return m.table(t)
	}
	m.clashes = append(m.clashes, slices.Clone(m.here))
	return nil
}

func (m *merger) table(t three) *api.Value {
	made := api.Value{Kind: api.VTable}
	for _, key := range t.keys() {
		m.here = append(m.here, api.Step{Key: key, I: path.OfKey})
		if v := m.merged(t.at(key)); v != nil {
			made.E = append(made.E, api.Entry{Key: key, V: *v})
		}
		m.here = m.here[:len(m.here)-1]
	}
	return &made
}
