package val

import (
	"iter"
	"slices"

	"typecase/api"
)

// walk from the first to its parts, part by part, each one ahead of its own parts. These are asked for when it has been handed over, not earlier: so who goes through may leave off ahead of them, or change them first. The parts that are still to come are kept in a list, not in calls within calls: a value may be deeper than calls can be.
func walk[T any](first T, parts func(T) iter.Seq[T]) iter.Seq[T] {
	return func(yield func(T) bool) {
		waiting := []T{first}
		for len(waiting) > 0 {
			last := len(waiting) - 1
			next := waiting[last]
			waiting = waiting[:last]
			if !yield(next) {
				return
			}
			for part := range parts(next) {
				waiting = append(waiting, part)
			}
			slices.Reverse(waiting[last:])
		}
	}
}

// node: a value, and how many values it is part of.
type node struct {
	value *api.Value
	above int
}

// nodes of a value: itself, and those of its parts.
func nodes(v *api.Value) iter.Seq[node] {
	return walk(node{value: v}, node.parts)
}

// parts of a node's value, in order.
func (n node) parts() iter.Seq[node] {
	return func(yield func(node) bool) {
		for i := range n.value.L {
			if !yield(node{&n.value.L[i], n.above + 1}) {
				return
			}
		}
		for i := range n.value.E {
			if !yield(node{&n.value.E[i].V, n.above + 1}) {
				return
			}
		}
	}
}
