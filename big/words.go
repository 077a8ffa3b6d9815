package big

import "math/bits"

// What is here works in the list that it is given: the listed calls hand it lists of their own.

// cut off the words 0 at the end, within the same memory.
func cut(a []uint32) []uint32 {
	n := len(a)
	for n > 0 && a[n-1] == 0 {
		n--
	}
	return a[:n]
}

// sign of a difference that is not 0.
func sign(greater bool) int {
	if greater {
		return 1
	}
	return -1
}

// isNumeral: is s what Text tells of some number?
func isNumeral(s string) bool {
	if s == "" || s[0] == '0' && len(s) > 1 {
		return false
	}
	for i := 0; i < len(s); i++ {
		if s[i] < '0' || s[i] > '9' {
			return false
		}
	}
	return true
}

// timesTenPlus one more digit; a has no word 0 at its end, and neither has the answer.
func timesTenPlus(a []uint32, digit byte) []uint32 {
	carry := uint64(digit)
	for i, x := range a {
		carry += uint64(x) * 10
		a[i] = uint32(carry)
		carry >>= wordBits
	}
	if carry > 0 {
		a = append(a, uint32(carry))
	}
	return a
}

// addTo a the number b, which has no more words than a; what goes beyond a's words is lost, and told.
func addTo(a, b []uint32) bool {
	carry := uint64(0)
	for i, x := range a {
		carry += uint64(x)
		if i < len(b) {
			carry += uint64(b[i])
		}
		a[i] = uint32(carry)
		carry >>= wordBits
	}
	return carry > 0
}

// takeTimes takes b, times n, off a, which has no fewer words than b; whether a was less is told, and then a is too great by its words' whole range.
func takeTimes(a, b []uint32, n uint32) bool {
	// What is still to be taken and what was borrowed are one sum, which never needs more than a word.
	owed := uint64(0)
	for i, x := range a {
		if i < len(b) {
			owed += uint64(b[i]) * uint64(n)
		}
		low := uint32(owed)
		owed >>= wordBits
		if x < low {
			owed++
		}
		a[i] = x - low
	}
	return owed > 0
}

// divideByWord makes a the whole part of a / b, and tells what is left; b is not 0.
func divideByWord(a []uint32, b uint32) uint32 {
	rest := uint64(0)
	for i := len(a) - 1; i >= 0; i-- {
		rest = rest<<wordBits | uint64(a[i])
		a[i] = uint32(rest / uint64(b))
		rest %= uint64(b)
	}
	return uint32(rest)
}

// divideLong by two words or more, word by word from the top, as on paper; a is not less than b, and both end in words above 0.
func divideLong(a, b []uint32) ([]uint32, []uint32) {
	// With the top bit of the divisor set, a guess from the top words is at most two too many.
	n := bits.LeadingZeros32(b[len(b)-1])
	divisor := cut(shiftLeft(b, n))
	rest := shiftLeft(a, n)
	quotient := make([]uint32, len(rest)-len(divisor))
	for i := len(quotient) - 1; i >= 0; i-- {
		quotient[i] = divideOnce(rest[i:i+len(divisor)+1], divisor)
	}
	return quotient, shiftRight(cut(rest), n)
}

// divideOnce makes a what is left of a / b, and tells the whole part, which is one word: a has one word more than b, and is less than b * 2^32.
func divideOnce(a, b []uint32) uint32 {
	top := len(b) - 1
	high := uint64(a[top+1])<<wordBits | uint64(a[top])
	guess := uint32(min(high/uint64(b[top]), 1<<wordBits-1))
	for less := takeTimes(a, b, guess); less; guess-- {
		// Back above 0 when the sum goes beyond the words: that takes off the range that was too much.
		less = !addTo(a, b)
	}
	return guess
}

// shiftLeft by n bits, n at least 0, into a new list with one word more than a and the whole words of n have, be it 0.
func shiftLeft(a []uint32, n int) []uint32 {
	words, small := n/wordBits, n%wordBits
	out := make([]uint32, len(a)+words+1)
	for i, x := range a {
		wide := uint64(x) << small
		out[i+words] |= uint32(wide)
		out[i+words+1] = uint32(wide >> wordBits)
	}
	return out
}

// shiftRight by n bits, n from 0 to 31, into a new list.
func shiftRight(a []uint32, n int) []uint32 {
	out := make([]uint32, len(a))
	for i, x := range a {
		wide := uint64(x) << wordBits >> n
		out[i] = uint32(wide >> wordBits)
		if i > 0 {
			out[i-1] |= uint32(wide)
		}
	}
	return out
}
