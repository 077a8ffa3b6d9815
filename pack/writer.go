package pack

import (
	"strings"

	"typecase/api"
)

// What stands ahead of each element or entry, and behind the last one.
const (
	partAhead = 1
	partsEnd  = 0
)

// In a chain a byte 0 never stands alone: what is behind it tells whether it is one of the text's own, or the first of the two that end the chain.
const (
	zeroInside = 255
	zeroAtEnd  = 0
)

// appendValue, a good one: so it is not so deep that calls within calls would not do.
func appendValue(b []byte, v api.Value) []byte {
	b = append(b, byte(v.Kind+1))
	switch v.Kind {
	case api.VBool:
		return append(b, byte(v.N))
	case api.VInt:
		return appendNumber(b, turnWhole(uint64(v.N)))
	case api.VFloat:
		return appendNumber(b, turnFraction(v.F))
	case api.VText:
		return appendChain(b, v.S)
	case api.VList:
		for _, part := range v.L {
			b = appendValue(append(b, partAhead), part)
		}
		return append(b, partsEnd)
	case api.VTable:
		for _, e := range v.E {
			b = appendChain(append(b, partAhead), e.Key)
			b = appendValue(b, e.V)
		}
		return append(b, partsEnd)
	}
	return b
}

// appendNumber: its eight bytes, the greatest first.
func appendNumber(b []byte, n uint64) []byte {
	for shift := 56; shift >= 0; shift -= 8 {
		b = append(b, byte(n>>shift))
	}
	return b
}

// appendChain of a text.
func appendChain(b []byte, s string) []byte {
	b = append(b, strings.ReplaceAll(s, "\x00", string([]byte{0, zeroInside}))...)
	return append(b, 0, zeroAtEnd)
}

const sign = 1 << 63

// turnWhole number, or turn it back: 2^63 is added, which is the same as taken off.
func turnWhole(n uint64) uint64 {
	return n ^ sign
}

// turnFraction so that its bits rise as the number does.
func turnFraction(bits uint64) uint64 {
	if bits&sign == 0 {
		return bits ^ sign
	}
	return ^bits
}

// turnFractionBack to the bits that turnFraction was given.
func turnFractionBack(turned uint64) uint64 {
	if turned&sign != 0 {
		return turned ^ sign
	}
	return ^turned
}
