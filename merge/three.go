package merge

import (
	"slices"

	"typecase/api"
	"typecase/val"
)

// three values that stand at one path; nil where there is none.
type three struct{ base, a, b *api.Value }

// areTables, all of them?
func (t three) areTables() bool {
	return isTable(t.base) && isTable(t.a) && isTable(t.b)
}

// keys that any of three tables has, in order.
func (t three) keys() []string {
	var l []string
	for _, v := range []*api.Value{t.base, t.a, t.b} {
		for _, e := range v.E {
			l = append(l, e.Key)
		}
	}
	slices.Sort(l)
	return slices.Compact(l)
}

// at a key of three tables.
func (t three) at(key string) three {
	return three{entryAt(t.base, key), entryAt(t.a, key), entryAt(t.b, key)}
}

func isTable(v *api.Value) bool { return v != nil && v.Kind == api.VTable }

func entryAt(v *api.Value, key string) *api.Value {
	at := val.Find(v.E, key)
	if at < 0 {
		return nil
	}
	return &v.E[at].V
}

// same values, or none of both?
func same(v, w *api.Value) bool {
	if v == nil || w == nil {
		return v == w
	}
	return val.Compare(*v, *w) == 0
}
