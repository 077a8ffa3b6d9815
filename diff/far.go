package diff

import (
	"iter"

	"typecase/api"
	"typecase/path"
	"typecase/val"
)

// far: how far are two good values apart?
func far(a, b api.Value) int {
	switch {
	case val.Compare(a, b) == 0:
		return 0
	case both(a, b, api.VTable):
		return farTables(a.E, b.E)
	case both(a, b, api.VList):
		return newGrid(a.L, b.L).least()
	}
	return val.Nodes(a) + val.Nodes(b)
}

// both of a Kind?
func both(a, b api.Value, kind int) bool { return a.Kind == kind && b.Kind == kind }

func farTables(a, b []api.Entry) int {
	sum := 0
	for p := range pairs(a, b) {
		switch {
		case p.b == nil:
			sum += val.Nodes(*p.a)
		case p.a == nil:
			sum += val.Nodes(*p.b)
		default:
			sum += far(*p.a, *p.b)
		}
	}
	return sum
}

// pair of the values that two tables have at a key; nil of the one that has none there.
type pair struct {
	key  string
	a, b *api.Value
}

// pairs of two tables' entries, which stand in order, key by key.
func pairs(a, b []api.Entry) iter.Seq[pair] {
	return func(yield func(pair) bool) {
		more := true
		for more && len(a)+len(b) > 0 {
			switch {
			case len(b) == 0 || len(a) > 0 && a[0].Key < b[0].Key:
				more = yield(pair{key: a[0].Key, a: &a[0].V})
				a = a[1:]
			case len(a) == 0 || b[0].Key < a[0].Key:
				more = yield(pair{key: b[0].Key, b: &b[0].V})
				b = b[1:]
			default:
				more = yield(pair{key: a[0].Key, a: &a[0].V, b: &b[0].V})
				a, b = a[1:], b[1:]
			}
		}
	}
}

// cost of an update that upd.Apply takes: so what it leads to is there, and what it puts is good.
func cost(v api.Value, o api.Op) int {
	switch o.Kind {
	case api.USet:
		return nodesAt(v, o.P) + val.Nodes(o.V)
	case api.UAdd:
		return val.Nodes(o.V)
	case api.UDrop:
		return nodesAt(v, o.P)
	}
	return 2 * nodesAt(v, o.P)
}

// nodesAt: the nodes of what is there.
func nodesAt(v api.Value, p []api.Step) int {
	there, _ := path.Get(v, p)
	return val.Nodes(there)
}
