package float

import (
	"math/bits"

	"typecase/big"
)

// span of the numbers whose nearest fraction is one and the same, all told in units of 10^ten: the whole ones among them go from low to high; the fraction itself is at, or, if more is true, above at and below at + 1.
type span struct {
	low, at, high uint64
	more          bool
	ten           int
}

// spanOf mant * 2^exp, as Parts tells them; mant is not 0. Its unit is so small that at has 18 or 19 digits: each fraction is told by 17 or fewer, so that units can be dropped.
func spanOf(mant uint64, exp int) span {
	ten := floorLog10(bits.Len64(mant)-1+exp) - 17
	in := func(quarters uint64) division { return inUnits(quarters, exp-2, ten) }
	below := uint64(2)
	if mant == hiddenBit && exp > leastExp {
		// The fractions below a power of 2 are twice as dense.
		below = 1
	}
	low, at, high := in(4*mant-below), in(4*mant), in(4*mant+2)
	s := span{small(low.whole), small(at.whole), small(high.whole), !at.exact(), ten}
	// What lies halfway belongs to the even one.
	odd := mant%2 == 1
	if odd || !low.exact() {
		s.low++
	}
	if odd && high.exact() {
		s.high--
	}
	return s
}

// inUnits: mant * 2^exp in units of 10^ten.
func inUnits(mant uint64, exp, ten int) division {
	if ten < 0 {
		return divide(big.Mul(large(mant), tenTo(-ten)), []uint32{1}, -exp)
	}
	return divide(large(mant), tenTo(ten), -exp)
}

// floorLog10 of 2^n: right for each n from -1500 to 1500.
func floorLog10(n int) int { return n * 1262611 >> 22 }

// shortest number in s, that is the one with the most noughts at its end; of these the nearest.
func (s span) shortest() uint64 {
	unit := uint64(10)
	for s.at/unit >= 10 {
		unit *= 10
	}
	number, ok := s.nearestOf(unit)
	for !ok && unit > 10 {
		unit /= 10
		number, ok = s.nearestOf(unit)
	}
	return number
}

// nearestOf the multiples of unit in s, if there is one; unit is even. None is nearer than the two beside the fraction, and if one of s is, one of these two is.
func (s span) nearestOf(unit uint64) (uint64, bool) {
	rest := s.at % unit
	down := s.at - rest
	up := down + unit
	if down < s.low {
		return up, up <= s.high
	}
	if up > s.high || rest < unit/2 {
		return down, true
	}
	if rest == unit/2 && !s.more && down/unit%2 == 0 {
		return down, true
	}
	return up, true
}
