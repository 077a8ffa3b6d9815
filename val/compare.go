package val

import (
	"cmp"
	"iter"
	"strings"

	"typecase/api"
)

// pair of values that stand at one place in two; or, if settled is not 0, there is a difference ahead of them, and they don't count.
type pair struct {
	a, b    *api.Value
	settled int
}

// pairs of two values: they themselves, and those of their parts, as far as these stand at one place.
func pairs(a, b *api.Value) iter.Seq[pair] {
	return walk(pair{a: a, b: b}, pair.parts)
}

// compare the two without their parts.
func (p pair) compare() int {
	if p.settled != 0 {
		return p.settled
	}
	return cmp.Or(
		cmp.Compare(p.a.Kind, p.b.Kind),
		cmp.Compare(p.a.N, p.b.N),
		cmp.Compare(rank(p.a.F), rank(p.b.F)),
		strings.Compare(p.a.S, p.b.S),
	)
}

// rank of a fraction: a number that is greater, the higher it stands.
func rank(bits uint64) uint64 {
	const sign = 1 << 63
	if bits&sign != 0 {
		return ^bits
	}
	return bits | sign
}

// parts of two values side by side, up to the first difference that is none of values.
func (p pair) parts() iter.Seq[pair] {
	return func(yield func(pair) bool) {
		if p.elements(yield) {
			p.entries(yield)
		}
	}
}

// elements of both, handed over: is more to be handed over behind them?
func (p pair) elements(yield func(pair) bool) bool {
	for i := range min(len(p.a.L), len(p.b.L)) {
		if !yield(pair{a: &p.a.L[i], b: &p.b.L[i]}) {
			return false
		}
	}
	settled := cmp.Compare(len(p.a.L), len(p.b.L))
	if settled != 0 {
		yield(pair{settled: settled})
	}
	return settled == 0
}

// entries of both, handed over.
func (p pair) entries(yield func(pair) bool) {
	for i := range min(len(p.a.E), len(p.b.E)) {
		x, y := &p.a.E[i], &p.b.E[i]
		if settled := strings.Compare(x.Key, y.Key); settled != 0 {
			yield(pair{settled: settled})
			return
		}
		if !yield(pair{a: &x.V, b: &y.V}) {
			return
		}
	}
	if settled := cmp.Compare(len(p.a.E), len(p.b.E)); settled != 0 {
		yield(pair{settled: settled})
	}
}
