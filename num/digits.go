package num

import "strings"

// The bases that a numeral may have.
const (
	binary  = 2
	octal   = 8
	decimal = 10
	hexa    = 16
)

// noDigit is as much as no digit of any base.
const noDigit = hexa

// prefixOf a base: what its numerals have ahead of their digits.
func prefixOf(base int) (string, bool) {
	switch base {
	case binary:
		return "0b", true
	case octal:
		return "0o", true
	case decimal:
		return "", true
	case hexa:
		return "0x", true
	}
	return "", false
}

// cutBase off, if a prefix stands ahead; without one the base is 10.
func cutBase(s string) (string, uint64) {
	for _, base := range [...]int{binary, octal, hexa} {
		prefix, _ := prefixOf(base)
		if digits, ok := strings.CutPrefix(s, prefix); ok {
			return digits, uint64(base)
		}
	}
	return s, decimal
}

// digitOf a byte.
func digitOf(c byte) uint64 {
	switch {
	case '0' <= c && c <= '9':
		return uint64(c - '0')
	case 'a' <= c && c <= 'f':
		return uint64(c-'a') + 10
	case 'A' <= c && c <= 'F':
		return uint64(c-'A') + 10
	}
	return noDigit
}

// formed: are these digits of the base, as a numeral has them?
func formed(s string, base uint64) bool {
	if base == decimal && len(s) > 1 && s[0] == '0' {
		return false
	}
	behindDigit := false
	for i := range len(s) {
		if s[i] == '_' && behindDigit {
			behindDigit = false
			continue
		}
		if digitOf(s[i]) >= base {
			return false
		}
		behindDigit = true
	}
	return behindDigit
}

// sizeWithin a limit: the number of formed digits, and whether it is at most as great.
func sizeWithin(s string, base, limit uint64) (uint64, bool) {
	size := uint64(0)
	for i := range len(s) {
		if s[i] == '_' {
			continue
		}
		digit := digitOf(s[i])
		// Asked ahead of the step: behind it the number may have wrapped round.
		if size > (limit-digit)/base {
			return 0, false
		}
		size = size*base + digit
	}
	return size, true
}
