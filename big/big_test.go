package big_test

import (
	"math"
	mathbig "math/big"
	"slices"
	"strings"
	"testing"

	"typecase/api"
	"typecase/big"
)

// same: does got stand for want, without a word 0 at its end?
func same(got []uint32, want *mathbig.Int) bool { return slices.Equal(got, modelWords(want)) }

// P30: a list is the sum of its words, words 0 at its end are nothing, and no answer has them.

func TestTrimOfLists(t *testing.T) {
	for _, c := range []struct{ a, want []uint32 }{
		{nil, nil},
		{[]uint32{}, nil},
		{[]uint32{0}, nil},
		{[]uint32{0, 0, 0}, nil},
		{[]uint32{7}, []uint32{7}},
		{[]uint32{0, 7}, []uint32{0, 7}},
		{[]uint32{7, 0}, []uint32{7}},
		{[]uint32{0, 7, 0, 0}, []uint32{0, 7}},
		{[]uint32{1, 0, 1, 0}, []uint32{1, 0, 1}},
	} {
		if got := big.Trim(c.a); !slices.Equal(got, c.want) {
			t.Errorf("Trim(%v) is %v, not %v", c.a, got, c.want)
		}
	}
	for _, a := range someLists() {
		if got := big.Trim(a); !same(got, modelNumber(a)) {
			t.Errorf("Trim(%v) is %v", a, got)
		}
	}
}

func TestCmpOfPairs(t *testing.T) {
	for a, b := range somePairs() {
		if got, want := big.Cmp(a, b), modelNumber(a).Cmp(modelNumber(b)); got != want {
			t.Errorf("Cmp(%v, %v) is %d, not %d", a, b, got, want)
		}
	}
}

func TestCmpPassesOverNoughts(t *testing.T) {
	for _, c := range []struct {
		a, b []uint32
		want int
	}{
		{nil, []uint32{0, 0}, 0},
		{[]uint32{1, 0, 0}, []uint32{1}, 0},
		{[]uint32{1, 0, 0}, []uint32{2}, -1},
		{[]uint32{2}, []uint32{1, 0, 0}, 1},
		{[]uint32{9, 1}, []uint32{1, 9, 0}, -1},
		{[]uint32{0, 1}, []uint32{1<<32 - 1, 0}, 1},
	} {
		if got := big.Cmp(c.a, c.b); got != c.want {
			t.Errorf("Cmp(%v, %v) is %d, not %d", c.a, c.b, got, c.want)
		}
	}
}

func TestLenIsTheLeast(t *testing.T) {
	for _, a := range someLists() {
		n := big.Len(a)
		bound := new(mathbig.Int).Lsh(mathbig.NewInt(1), uint(n))
		if n < 0 || modelNumber(a).Cmp(bound) >= 0 {
			t.Errorf("Len(%v) is %d: too small", a, n)
		}
		if n > 0 && modelNumber(a).Cmp(bound.Rsh(bound, 1)) < 0 {
			t.Errorf("Len(%v) is %d: not the least", a, n)
		}
	}
	for a, want := range map[*[]uint32]int{{}: 0, {0, 0}: 0, {1}: 1, {2}: 2, {1<<32 - 1}: 32, {0, 1}: 33, {0, 1, 0}: 33, {5, 1 << 31}: 64} {
		if got := big.Len(*a); got != want {
			t.Errorf("Len(%v) is %d, not %d", *a, got, want)
		}
	}
}

// P31: sums, products, differences, quotients, shifts, powers.

func TestSumsAndProducts(t *testing.T) {
	for a, b := range somePairs() {
		x, y := modelNumber(a), modelNumber(b)
		if got := big.Add(a, b); !same(got, new(mathbig.Int).Add(x, y)) {
			t.Errorf("Add(%v, %v) is %v", a, b, got)
		}
		if got := big.Mul(a, b); !same(got, new(mathbig.Int).Mul(x, y)) {
			t.Errorf("Mul(%v, %v) is %v", a, b, got)
		}
	}
}

func TestDifferences(t *testing.T) {
	for a, b := range somePairs() {
		got, e := big.Sub(a, b)
		want := new(mathbig.Int).Sub(modelNumber(a), modelNumber(b))
		if want.Sign() < 0 {
			if len(got) > 0 || e != api.ErrArg {
				t.Errorf("Sub(%v, %v) is %v, %d", a, b, got, e)
			}
			continue
		}
		if !same(got, want) || e != api.OK {
			t.Errorf("Sub(%v, %v) is %v, %d", a, b, got, e)
		}
	}
}

func TestQuotients(t *testing.T) {
	for a, b := range somePairs() {
		quotient, rest, e := big.DivMod(a, b)
		x, y := modelNumber(a), modelNumber(b)
		if y.Sign() == 0 {
			if len(quotient) > 0 || len(rest) > 0 || e != api.ErrArg {
				t.Errorf("DivMod(%v, %v) is %v, %v, %d", a, b, quotient, rest, e)
			}
			continue
		}
		q, r := new(mathbig.Int).QuoRem(x, y, new(mathbig.Int))
		if !same(quotient, q) || !same(rest, r) || e != api.OK {
			t.Errorf("DivMod(%v, %v) is %v, %v, %d", a, b, quotient, rest, e)
		}
	}
}

func TestQuotientsOfProducts(t *testing.T) {
	divisors, quotients := mixedLists(3, 60, 8), mixedLists(4, 60, 8)
	for _, b := range divisors {
		for _, q := range quotients {
			// One below a product is where guesses are most often too many.
			a := new(mathbig.Int).Mul(modelNumber(b), modelNumber(q))
			if a.Sign() == 0 {
				continue
			}
			a.Sub(a, mathbig.NewInt(1))
			quotient, rest, e := big.DivMod(modelWords(a), b)
			x, y := new(mathbig.Int).QuoRem(a, modelNumber(b), new(mathbig.Int))
			if !same(quotient, x) || !same(rest, y) || e != api.OK {
				t.Errorf("DivMod(%v, %v) is %v, %v, %d", a, b, quotient, rest, e)
			}
		}
	}
}

func modelShift(a []uint32, n int) *mathbig.Int {
	if n < 0 {
		return new(mathbig.Int).Rsh(modelNumber(a), uint(-n))
	}
	return new(mathbig.Int).Lsh(modelNumber(a), uint(n))
}

func TestShifts(t *testing.T) {
	for _, a := range slices.Concat(mixedLists(5, 60, 6), [][]uint32{nil, {0, 0}, {1}, {1 << 31}, {1<<32 - 1, 1<<32 - 1}}) {
		for n := -260; n <= 130; n++ {
			if got, e := big.Shift(a, n); !same(got, modelShift(a, n)) || e != api.OK {
				t.Errorf("Shift(%v, %d) is %v, %d", a, n, got, e)
			}
		}
		for _, n := range []int{3967, 3968, 3999, 4000, -4000, -4001, -100000} {
			if got, e := big.Shift(a, n); !same(got, modelShift(a, n)) || e != api.OK {
				t.Errorf("Shift(%v, %d) is %v, %d", a, n, got, e)
			}
		}
	}
}

func TestShiftsFarToTheRight(t *testing.T) {
	for _, n := range []int{math.MinInt, math.MinInt + 1, math.MinInt + 31, math.MinInt + 32, math.MinInt32} {
		if got, e := big.Shift([]uint32{5, 6, 7}, n); len(got) > 0 || e != api.OK {
			t.Errorf("Shift by %d is %v, %d", n, got, e)
		}
	}
	a := append(make([]uint32, 200), 12)
	if got, e := big.Shift(a, -6402); !slices.Equal(got, []uint32{3}) || e != api.OK {
		t.Errorf("beyond 4000 to the right it is %v, %d", got, e)
	}
}

func TestShiftsThatAreTooLarge(t *testing.T) {
	for _, a := range [][]uint32{nil, {0}, {1}, {1, 2, 3}} {
		for _, n := range []int{4001, 4032, math.MaxInt32, math.MaxInt} {
			if got, e := big.Shift(a, n); len(got) > 0 || e != api.ErrLarge {
				t.Errorf("Shift(%v, %d) is %v, %d", a, n, got, e)
			}
		}
	}
}

func TestPowers(t *testing.T) {
	for _, b := range append([]uint32{3, 7, 10, 1 << 16}, edgeWords...) {
		for _, n := range []int{0, 1, 2, 3, 4, 5, 7, 8, 9, 15, 16, 31, 32, 33, 63, 64, 100, 511, 512, 999, 1000} {
			want := new(mathbig.Int).Exp(new(mathbig.Int).SetUint64(uint64(b)), mathbig.NewInt(int64(n)), nil)
			if got, e := big.Pow(b, n); !same(got, want) || e != api.OK {
				t.Errorf("Pow(%d, %d) is %v, %d", b, n, got, e)
			}
		}
	}
}

func TestPowersThatAreNot(t *testing.T) {
	for _, b := range edgeWords {
		for n, want := range map[int]api.Errno{-1: api.ErrArg, math.MinInt: api.ErrArg, 1001: api.ErrLarge, math.MaxInt: api.ErrLarge} {
			if got, e := big.Pow(b, n); len(got) > 0 || e != want {
				t.Errorf("Pow(%d, %d) is %v, %d", b, n, got, e)
			}
		}
	}
}

// P32: numbers as decimal digits, and back.

func TestTextsOfLists(t *testing.T) {
	for _, a := range append(someLists(), mixedLists(6, 20, 300)...) {
		want := modelNumber(a).String()
		if got := big.Text(a); got != want {
			t.Errorf("Text(%v) is %q, not %q", a, got, want)
		}
		if len(want) > 1000 {
			continue
		}
		if got, e := big.Read(want); !same(got, modelNumber(a)) || e != api.OK {
			t.Errorf("Read(%q) is %v, %d", want, got, e)
		}
	}
}

func TestTextsOfPowersOfTen(t *testing.T) {
	for n := range 60 {
		power := new(mathbig.Int).Exp(mathbig.NewInt(10), mathbig.NewInt(int64(n)), nil)
		below := new(mathbig.Int).Sub(power, mathbig.NewInt(1))
		if got, want := big.Text(modelWords(power)), "1"+strings.Repeat("0", n); got != want {
			t.Errorf("10^%d is told as %q", n, got)
		}
		if got, want := big.Text(modelWords(below)), below.String(); got != want {
			t.Errorf("10^%d - 1 is told as %q", n, got)
		}
	}
	if got := len(big.Text([]uint32{0, 0, 1})); got != 20 {
		t.Errorf("2^64 has %d digits", got)
	}
}

func TestReadOfLongNumerals(t *testing.T) {
	for _, s := range []string{"0", "9", "10", strings.Repeat("9", 999), strings.Repeat("9", 1000), "1" + strings.Repeat("0", 999), strings.Repeat("1234567890", 100)} {
		want, _ := new(mathbig.Int).SetString(s, 10)
		if got, e := big.Read(s); !same(got, want) || e != api.OK {
			t.Errorf("Read(%q) is %v, %d", s, got, e)
		}
	}
}

func TestReadOfWhatIsNone(t *testing.T) {
	for _, s := range []string{"", " ", "-", "+", "+1", "-0", "-1", "00", "01", "007", " 1", "1 ", "1\n", "1.", ".1", "1_000", "1,0", "1e3", "0x1", "a", "1a", "a1", "/", ":", "1/", "1:", "\x00", "1\x00", "٣", "1٣", "\xff", "0" + strings.Repeat("1", 999), strings.Repeat("1", 999) + "x"} {
		if got, e := big.Read(s); len(got) > 0 || e != api.ErrForm {
			t.Errorf("Read(%q) is %v, %d", s, got, e)
		}
	}
}

func TestReadOfEveryShortText(t *testing.T) {
	for x := range 256 {
		for y := range 256 {
			s := string([]byte{byte(x), byte(y)})
			good := x >= '1' && x <= '9' && y >= '0' && y <= '9'
			got, e := big.Read(s)
			if good && (!slices.Equal(got, []uint32{uint32(x-'0')*10 + uint32(y-'0')}) || e != api.OK) || !good && (len(got) > 0 || e != api.ErrForm) {
				t.Errorf("Read(%q) is %v, %d", s, got, e)
			}
		}
	}
}

func TestReadOfTooMuch(t *testing.T) {
	for _, s := range []string{strings.Repeat("9", 1001), strings.Repeat("0", 1001), strings.Repeat("x", 1001), strings.Repeat(" ", 5000), strings.Repeat("€", 334)} {
		if got, e := big.Read(s); len(got) > 0 || e != api.ErrLarge {
			t.Errorf("Read of %d bytes is %v, %d", len(s), got, e)
		}
	}
}

// P2: what is handed in stays as it was, the room behind it included, and answers are new memory.

// roomy is l with words behind it, for a call to leave alone.
func roomy(l []uint32) []uint32 {
	room := append(slices.Clone(l), 0xdead, 0xbeef, 0xdead, 0xbeef)
	return room[:len(l)]
}

// spoil changes a list and the room behind it.
func spoil(l []uint32) {
	l = l[:cap(l)]
	for i := range l {
		l[i] = 0xbad
	}
}

// answersOf are the lists that the listed calls answer of two.
func answersOf(a, b []uint32) [][]uint32 {
	difference, _ := big.Sub(a, b)
	quotient, rest, _ := big.DivMod(a, b)
	same, _ := big.Shift(a, 0)
	left, _ := big.Shift(a, 37)
	right, _ := big.Shift(a, -3)
	return [][]uint32{big.Trim(a), big.Add(a, b), difference, big.Mul(a, b), quotient, rest, same, left, right}
}

func TestMemoryOfAnswers(t *testing.T) {
	for _, c := range []struct{ a, b []uint32 }{
		{[]uint32{5, 6, 7}, []uint32{1, 2}},
		{[]uint32{1, 2}, []uint32{5, 6, 7}},
		{[]uint32{5, 6, 7, 0}, []uint32{9, 0}},
		{[]uint32{5, 6}, []uint32{1}},
		{[]uint32{5, 6}, nil},
		{nil, []uint32{5, 6}},
		{[]uint32{5, 6}, []uint32{5, 6}},
	} {
		a, b := roomy(c.a), roomy(c.b)
		got, want := answersOf(a, b), answersOf(slices.Clone(c.a), slices.Clone(c.b))
		for i := range got {
			if !slices.Equal(got[i], want[i]) {
				t.Errorf("answer %d of %v, %v became %v, not %v", i, c.a, c.b, got[i], want[i])
			}
			spoil(got[i])
		}
		big.Cmp(a, b)
		big.Len(a)
		big.Text(a)
		if !slices.Equal(a[:len(a)+4], roomy(c.a)[:len(a)+4]) || !slices.Equal(b[:len(b)+4], roomy(c.b)[:len(b)+4]) {
			t.Errorf("%v, %v were changed to %v, %v", c.a, c.b, a[:len(a)+4], b[:len(b)+4])
		}
	}
}
