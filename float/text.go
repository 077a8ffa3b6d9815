package float

import (
	"strconv"
	"strings"

	"typecase/api"
	"typecase/big"
)

// Where the point may stand so that no exponent is told.
const (
	leastPoint = -3
	mostPoint  = 17
)

// farExp is so far that no digits of a numeral lead back: with it each is infinite or 0.
const farExp = maxTenExp + api.MaxNumber

// layOut digits, the point being behind the first p of them.
func layOut(digits string, p int) string {
	n := len(digits)
	switch {
	case p < leastPoint || p > mostPoint:
		return withExponent(digits, p-1)
	case p <= 0:
		return "0." + noughts(-p) + digits
	case p < n:
		return digits[:p] + "." + digits[p:]
	}
	return digits + noughts(p-n) + ".0"
}

// withExponent: one digit ahead of the point, if there are more behind it.
func withExponent(digits string, exp int) string {
	head, rest := digits[:1], digits[1:]
	if rest != "" {
		head += "." + rest
	}
	return head + "e" + strconv.Itoa(exp)
}

// noughts in a row.
func noughts(n int) string { return strings.Repeat("0", n) }

// numeral of a fraction, without its sign: digits * 10^exp.
type numeral struct {
	digits string
	exp    int
}

// numeralOf s, if it is one: digits, and a point with digits, or an exponent, or both.
func numeralOf(s string) (numeral, bool) {
	mant, tail, hasExp := strings.Cut(s, "e")
	whole, part, hasPoint := strings.Cut(mant, ".")
	if !isDigits(whole) || whole[0] == '0' && len(whole) > 1 {
		return numeral{}, false
	}
	if hasPoint && !isDigits(part) {
		return numeral{}, false
	}
	exp, ok := 0, hasPoint
	if hasExp {
		exp, ok = exponentOf(tail)
	}
	return numeral{whole + part, exp - len(part)}, ok
}

// exponentOf s, which stands behind the e, if it is one; what is beyond farExp is told as that.
func exponentOf(s string) (int, bool) {
	s, below := strings.CutPrefix(s, "-")
	if !below {
		s = strings.TrimPrefix(s, "+")
	}
	if !isDigits(s) {
		return 0, false
	}
	exp := 0
	for i := 0; i < len(s); i++ {
		exp = min(exp*10+int(s[i]-'0'), farExp)
	}
	if below {
		exp = -exp
	}
	return exp, true
}

// isDigits: is s one digit or more, and nothing else?
func isDigits(s string) bool {
	for i := 0; i < len(s); i++ {
		if s[i] < '0' || s[i] > '9' {
			return false
		}
	}
	return s != ""
}

// near: the nearest fraction.
func (n numeral) near() uint64 {
	// Without digits it is 0, and so is what big.Read then tells beside its error.
	mant, _ := big.Read(strings.TrimLeft(n.digits, "0"))
	bits, _ := Near(mant, max(-maxTenExp, min(n.exp, maxTenExp)))
	return bits
}
