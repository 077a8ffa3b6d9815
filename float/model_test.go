package float_test

import (
	"math"
	mathbig "math/big"
	"math/rand/v2"
	"regexp"
	"strconv"
	"strings"
	"sync"
)

// The reference of these tests: the library's fractions of whole numbers, held against the document's own words.

const (
	signBit  = 1 << 63
	infinite = 2047 << 52
	greatest = infinite - 1
)

// twoTo the power of n, n below 0 as well.
func twoTo(n int) *mathbig.Rat {
	one := mathbig.NewInt(1)
	power := new(mathbig.Int).Lsh(one, uint(max(n, -n)))
	if n < 0 {
		return new(mathbig.Rat).SetFrac(one, power)
	}
	return new(mathbig.Rat).SetInt(power)
}

// tenPower: n times 10^exp.
func tenPower(n *mathbig.Int, exp int) *mathbig.Rat {
	power := new(mathbig.Int).Exp(mathbig.NewInt(10), mathbig.NewInt(int64(max(exp, -exp))), nil)
	if exp < 0 {
		return new(mathbig.Rat).SetFrac(n, power)
	}
	return new(mathbig.Rat).SetInt(power.Mul(power, n))
}

// modelValue is what the bits stand for, but for the sign: P40's formula; infinite bits are 2^1024 here, where the next fraction would be.
func modelValue(bits uint64) *mathbig.Rat {
	e, f := int(bits>>52&2047), bits&(1<<52-1)
	if e == 0 {
		e = 1
	} else {
		f += 1 << 52
	}
	n := new(mathbig.Rat).SetInt(new(mathbig.Int).SetUint64(f))
	return n.Mul(n, twoTo(e-1075))
}

// modelNear looks for the fractions at both sides of x by halving, and takes the nearer one.
func modelNear(x *mathbig.Rat) uint64 {
	low, high := uint64(0), uint64(infinite)
	if x.Cmp(modelValue(high)) >= 0 {
		return infinite
	}
	for high-low > 1 {
		if middle := (low + high) / 2; modelValue(middle).Cmp(x) <= 0 {
			low = middle
		} else {
			high = middle
		}
	}
	toLow := new(mathbig.Rat).Sub(x, modelValue(low))
	toHigh := new(mathbig.Rat).Sub(modelValue(high), x)
	switch c := toLow.Cmp(toHigh); {
	case c < 0, c == 0 && low%2 == 0:
		return low
	}
	return high
}

// modelIsNear: is bits, a fraction above 0, the nearest to x? Told by what lies halfway to those beside it.
func modelIsNear(bits uint64) func(x *mathbig.Rat) bool {
	half := func(other uint64) *mathbig.Rat {
		sum := new(mathbig.Rat).Add(modelValue(bits), modelValue(other))
		return sum.Quo(sum, mathbig.NewRat(2, 1))
	}
	low, high := half(bits-1), half(bits+1)
	return func(x *mathbig.Rat) bool {
		fromLow, fromHigh := x.Cmp(low), high.Cmp(x)
		if bits%2 == 0 {
			return fromLow >= 0 && fromHigh >= 0
		}
		return fromLow > 0 && fromHigh > 0
	}
}

// modelShort tries all numbers of one digit beside the fraction, then all of two, and so on; bits are above 0 and below infinite ones.
func modelShort(bits uint64) (string, int) {
	x := modelValue(bits)
	decade, isNear := modelDecade(x), modelIsNear(bits)
	for n := 1; ; n++ {
		best, bestExp := "", 0
		var bestFar *mathbig.Rat
		for exp := decade - n; exp <= decade-n+2; exp++ {
			for _, d := range besideIn(x, exp) {
				s := d.String()
				if len(s) != n || s[0] == '0' || s[n-1] == '0' || !isNear(tenPower(d, exp)) {
					continue
				}
				far := tenPower(d, exp)
				far.Sub(far, x).Abs(far)
				if best == "" || far.Cmp(bestFar) < 0 || far.Cmp(bestFar) == 0 && d.Bit(0) == 0 {
					best, bestExp, bestFar = s, exp, far
				}
			}
		}
		if best != "" {
			return best, bestExp
		}
	}
}

// modelDecade of x: 10 to this power is at most x, and 10 times that is more.
func modelDecade(x *mathbig.Rat) int {
	one := mathbig.NewInt(1)
	n := int(float64(x.Num().BitLen()-x.Denom().BitLen()) * 0.30103)
	for tenPower(one, n).Cmp(x) > 0 {
		n--
	}
	for tenPower(one, n+1).Cmp(x) <= 0 {
		n++
	}
	return n
}

// besideIn: the whole numbers that, times 10^exp, are next to x, two at each side.
func besideIn(x *mathbig.Rat, exp int) []*mathbig.Int {
	q := new(mathbig.Rat).Quo(x, tenPower(mathbig.NewInt(1), exp))
	floor := new(mathbig.Int).Quo(q.Num(), q.Denom())
	var l []*mathbig.Int
	for i := int64(-1); i <= 2; i++ {
		l = append(l, new(mathbig.Int).Add(floor, mathbig.NewInt(i)))
	}
	return l
}

// modelText lays out by the library's forms: without an exponent, or with one.
func modelText(bits uint64) string {
	sign := ""
	if bits >= signBit {
		sign = "-"
	}
	bits &^= signBit
	switch {
	case bits > infinite:
		return "nan"
	case bits == infinite:
		return sign + "inf"
	case bits == 0:
		return sign + "0.0"
	}
	f, _ := modelValue(bits).Float64()
	// The library's exponent is p - 1.
	head, tail, _ := strings.Cut(strconv.FormatFloat(f, 'e', -1, 64), "e")
	exp, _ := strconv.Atoi(tail)
	if exp+1 < -3 || exp+1 > 17 {
		return sign + head + "e" + strconv.Itoa(exp)
	}
	plain := strconv.FormatFloat(f, 'f', -1, 64)
	if !strings.Contains(plain, ".") {
		plain += ".0"
	}
	return sign + plain
}

var modelForm = regexp.MustCompile(`^-?(0|[1-9][0-9]*)(\.[0-9]+|e[-+]?[0-9]+|\.[0-9]+e[-+]?[0-9]+)$`)

var (
	bitsOnce sync.Once
	bitsList []uint64
)

// someBits above 0 and below infinite ones: the least and the greatest, all powers of 2 and of 10 with those beside them, halves and quarters where the digits end, and mixed ones.
func someBits() []uint64 {
	bitsOnce.Do(func() { bitsList = makeBits() })
	return bitsList
}

func makeBits() []uint64 {
	var l []uint64
	add := func(bits uint64) {
		for _, b := range []uint64{bits - 1, bits, bits + 1} {
			if b > 0 && b < infinite {
				l = append(l, b)
			}
		}
	}
	for b := range uint64(60) {
		l = append(l, b+1, greatest-b)
		add(1 << b)
	}
	for e := uint64(1); e <= 2047; e++ {
		add(e << 52)
	}
	for n := -324; n <= 308; n++ {
		f, _ := strconv.ParseFloat("1e"+strconv.Itoa(n), 64)
		b, _ := strconv.ParseFloat("9.5e"+strconv.Itoa(n), 64)
		add(math.Float64bits(f))
		add(math.Float64bits(b))
	}
	r := rand.New(rand.NewPCG(4, 40))
	for range 400 {
		l = append(l, r.Uint64N(infinite-1)+1, r.Uint64N(1<<52)+1, r.Uint64N(1<<20)+1)
		// Here a digit behind the point is less than what parts the fractions, so that two may be as near.
		l = append(l, (1023+uint64(r.IntN(12))+46)<<52|r.Uint64N(1<<52))
		// And here are those of few digits.
		l = append(l, math.Float64bits(float64(r.IntN(100000)+1)/float64(r.IntN(100)+1)))
	}
	return l
}
