package float

import "typecase/big"

// mantBits is how many bits the whole number has that Parts tells, if the fraction is not one of the least.
const mantBits = fracBits + 1

// 2^overBits is too great for each fraction.
const overBits = 1024

// nearest fraction to above / below; below is not 0.
func nearest(above, below []uint32) uint64 {
	if big.Len(above) == 0 {
		return 0
	}
	// above / below is more than 2^(size - 1) and less than 2^(size + 1).
	size := big.Len(above) - big.Len(below)
	if size > overBits {
		return infinite
	}
	exp := max(size-mantBits, leastExp)
	d := divide(above, below, exp)
	if big.Len(d.whole) > mantBits {
		exp++
		d = divide(above, below, exp)
	}
	// A whole number that was rounded up to one bit more carries into the exponent, and so does the hidden bit: that makes the bits right.
	return min(uint64(exp-leastExp)<<fracBits+d.rounded(), infinite)
}

// division of big numbers: its whole part, what is left, and what it was divided by.
type division struct{ whole, rest, by []uint32 }

// divide above by below * 2^exp; below is not 0, and exp from -MaxShift to MaxShift.
func divide(above, below []uint32, exp int) division {
	if exp < 0 {
		above, _ = big.Shift(above, -exp)
	} else {
		below, _ = big.Shift(below, exp)
	}
	whole, rest, _ := big.DivMod(above, below)
	return division{whole, rest, below}
}

// rounded to the nearest whole number, of two as near to the even one; the whole part is of 64 bits at most.
func (d division) rounded() uint64 {
	n := small(d.whole)
	half := big.Cmp(big.Add(d.rest, d.rest), d.by)
	if half > 0 || half == 0 && n%2 == 1 {
		n++
	}
	return n
}

// exact: is nothing left?
func (d division) exact() bool { return big.Len(d.rest) == 0 }

// small: a big number that needs 64 bits at most.
func small(a []uint32) uint64 {
	n := uint64(0)
	for i, x := range a {
		n |= uint64(x) << (32 * i)
	}
	return n
}

// large: a number of 64 bits as a big one.
func large(n uint64) []uint32 { return []uint32{uint32(n), uint32(n >> 32)} }

// tenTo the power of n, n from 0 to MaxPow.
func tenTo(n int) []uint32 {
	power, _ := big.Pow(10, n)
	return power
}
