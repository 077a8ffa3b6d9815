package num_test

import (
	"math"
	mathbig "math/big"
	"math/rand/v2"
	"regexp"
	"strings"

	"typecase/api"
)

// The reference of these tests: the document's form as a pattern, and the library's whole numbers of any size.

// form is P50's numeral: the groups are the sign, and the digits of base 10, 16, 8 and 2.
var form = regexp.MustCompile(`\A(-?)(?:(0|[1-9](?:_?[0-9])*)|0x([0-9a-fA-F](?:_?[0-9a-fA-F])*)|0o([0-7](?:_?[0-7])*)|0b([01](?:_?[01])*))\z`)

var bases = []int{10, 16, 8, 2}

// modelRead by P50's words.
func modelRead(s string) (int64, api.Errno) {
	if len(s) > 80 {
		return 0, api.ErrLarge
	}
	groups := form.FindStringSubmatch(s)
	if groups == nil {
		return 0, api.ErrForm
	}
	n := new(mathbig.Int)
	for i, base := range bases {
		if digits := groups[i+2]; digits != "" {
			n.SetString(strings.ReplaceAll(digits, "_", ""), base)
		}
	}
	if groups[1] == "-" {
		n.Neg(n)
	}
	if !n.IsInt64() {
		return 0, api.ErrRange
	}
	return n.Int64(), api.OK
}

// prefix of the numerals to a base.
func prefix(base int) string {
	switch base {
	case 16:
		return "0x"
	case 8:
		return "0o"
	case 2:
		return "0b"
	}
	return ""
}

// numeral of n to a base, with some noughts ahead of its digits.
func numeral(n *mathbig.Int, base, noughts int) string {
	sign := ""
	if n.Sign() < 0 {
		sign = "-"
	}
	return sign + prefix(base) + strings.Repeat("0", noughts) + new(mathbig.Int).Abs(n).Text(base)
}

// parted: with `_` between all digits.
func parted(s string, base int) string {
	ahead := prefix(base)
	if s[0] == '-' {
		ahead = "-" + ahead
	}
	return ahead + strings.Join(strings.Split(s[len(ahead):], ""), "_")
}

// someNumbers: the least and greatest ones, powers of the bases and what is beside them, and mixed ones of each length.
func someNumbers() []int64 {
	l := []int64{math.MinInt64, math.MinInt64 + 1, math.MaxInt64 - 1, math.MaxInt64}
	for n := int64(-300); n <= 300; n++ {
		l = append(l, n)
	}
	for _, base := range []int64{2, 10} {
		for n := int64(1); n <= math.MaxInt64/base; n *= base {
			p := n * base
			l = append(l, p-1, p, p+1, -p-1, -p, -p+1)
		}
	}
	source := rand.New(rand.NewPCG(5, 50))
	for length := range 64 {
		for range 20 {
			n := int64(source.Uint64() >> length)
			l = append(l, n, -n)
		}
	}
	return l
}

// greatNumbers: what is at the ends of 64 bits and far beyond them, where a sum that wraps round would be small again.
func greatNumbers() []*mathbig.Int {
	var l []*mathbig.Int
	for power := uint(60); power <= 140; power++ {
		for times := int64(1); times <= 16; times++ {
			n := new(mathbig.Int).Lsh(mathbig.NewInt(times), power)
			for near := int64(-20); near <= 20; near++ {
				m := new(mathbig.Int).Add(n, mathbig.NewInt(near))
				l = append(l, m, new(mathbig.Int).Neg(m))
			}
		}
	}
	return l
}
