package float_test

import (
	"math"
	mathbig "math/big"
	"math/rand/v2"
	"slices"
	"strconv"
	"strings"
	"testing"

	"typecase/api"
	"typecase/float"
)

// wordsOf a whole number, the least one first.
func wordsOf(n *mathbig.Int) []uint32 {
	var l []uint32
	for rest := new(mathbig.Int).Set(n); rest.Sign() > 0; rest.Rsh(rest, 32) {
		l = append(l, uint32(new(mathbig.Int).And(rest, mathbig.NewInt(1<<32-1)).Uint64()))
	}
	return l
}

func intOf(s string) *mathbig.Int {
	n, ok := new(mathbig.Int).SetString(s, 10)
	if !ok {
		panic(s)
	}
	return n
}

// P40: what bits stand for.

func TestPartsOfEachExponent(t *testing.T) {
	for e := range uint64(2048) {
		for _, f := range []uint64{0, 1, 2, 1 << 51, 1<<52 - 2, 1<<52 - 1, 0x8000000000001 & (1<<52 - 1)} {
			mant, exp, kind := f, -1074, 0
			switch {
			case e == 2047 && f == 0:
				mant, exp, kind = 0, 0, 1
			case e == 2047:
				mant, exp, kind = 0, 0, 2
			case e > 0:
				mant, exp = 1<<52+f, int(e)-1075
			}
			for _, sign := range []uint64{0, signBit} {
				m, x, k := float.Parts(sign | e<<52 | f)
				if m != mant || x != exp || k != kind {
					t.Errorf("Parts(%x) is %d, %d, %d, not %d, %d, %d", sign|e<<52|f, m, x, k, mant, exp, kind)
				}
			}
		}
	}
}

func TestPartsAreTheFraction(t *testing.T) {
	for _, b := range someBits() {
		mant, exp, kind := float.Parts(b)
		n := new(mathbig.Rat).SetInt(new(mathbig.Int).SetUint64(mant))
		want := new(mathbig.Rat).SetFloat64(math.Float64frombits(b))
		if n.Mul(n, twoTo(exp)).Cmp(want) != 0 || kind != 0 {
			t.Errorf("Parts(%x) is %d, %d, %d", b, mant, exp, kind)
		}
	}
}

// P41: the nearest fraction.

// checkNear against the model, with noughts at the list's end as well, and the room behind it looked at.
func checkNear(t *testing.T, mant *mathbig.Int, exp int) {
	t.Helper()
	want := modelNear(tenPower(mant, exp))
	for _, more := range []int{0, 1, 50} {
		list := append(wordsOf(mant), make([]uint32, more)...)
		room := append(slices.Clone(list), 77, 78)
		got, e := float.Near(room[:len(list)], exp)
		if got != want || e != api.OK {
			t.Errorf("Near(%v, %d) is %x, %d, not %x", mant, exp, got, e, want)
		}
		if !slices.Equal(room, append(list, 77, 78)) {
			t.Errorf("Near(%v, %d) changed what it was given", mant, exp)
		}
	}
}

func TestNearOfPlainOnes(t *testing.T) {
	for _, c := range []struct {
		mant string
		exp  int
		want float64
	}{
		{"0", 0, 0}, {"0", 1000, 0}, {"0", -1000, 0},
		{"1", 0, 1}, {"1", -1, 0.1}, {"3", -1, 0.3}, {"15", 19, 1.5e20},
		{"9007199254740993", 0, 9007199254740992}, {"9007199254740995", 0, 9007199254740996},
		{"90071992547409930", -1, 9007199254740992}, {"900719925474099300000001", -8, 9007199254740994},
		{"49", -325, 5e-324}, {"24703282292062327", -340, 0}, {"24703282292062328", -340, 5e-324},
		{"22250738585072011", -324, 2.225073858507201e-308}, {"22250738585072014", -324, 2.2250738585072014e-308},
		{"1", 308, 1e308}, {"1", 309, math.Inf(1)}, {"1", 1000, math.Inf(1)}, {"1", -1000, 0},
		{"17976931348623158", 292, math.MaxFloat64}, {"17976931348623159", 292, math.Inf(1)},
	} {
		got, e := float.Near(wordsOf(intOf(c.mant)), c.exp)
		if got != math.Float64bits(c.want) || e != api.OK {
			t.Errorf("Near(%s, %d) is %x, %d, not %x", c.mant, c.exp, got, e, math.Float64bits(c.want))
		}
		checkNear(t, intOf(c.mant), c.exp)
	}
}

func TestNearAtTheBounds(t *testing.T) {
	one := mathbig.NewInt(1)
	over := new(mathbig.Int).Lsh(one, 1280)
	most := new(mathbig.Int).Sub(over, one)
	for _, exp := range []int{-1000, -999, -700, -400, -386, -385, -300, -78, -77, -76, 0, 1, 999, 1000} {
		checkNear(t, most, exp)
		checkNear(t, one, exp)
	}
	for _, c := range []struct {
		mant *mathbig.Int
		exp  int
	}{
		{over, 0}, {over, -1000}, {over, 1000}, {new(mathbig.Int).Lsh(one, 5000), 0},
		{one, 1001}, {one, -1001}, {new(mathbig.Int), 1001}, {new(mathbig.Int), -1001},
		{one, math.MaxInt}, {one, math.MinInt}, {over, math.MinInt}, {one, math.MaxInt32}, {one, math.MinInt32},
	} {
		if got, e := float.Near(wordsOf(c.mant), c.exp); got != 0 || e != api.ErrLarge {
			t.Errorf("Near(%v, %d) is %x, %d, not ErrLarge", c.mant, c.exp, got, e)
		}
	}
}

// What lies halfway between two fractions, and just beside that, told with as many digits as may be.
func TestNearAtTheHalves(t *testing.T) {
	one := mathbig.NewInt(1)
	check := func(mant *mathbig.Int, exp int) {
		t.Helper()
		for _, by := range []int64{-1, 0, 1} {
			checkNear(t, new(mathbig.Int).Add(mant, mathbig.NewInt(by)), exp)
		}
	}
	r := rand.New(rand.NewPCG(4, 41))
	for i := range 60 {
		// 2 * m + 1 halves of a unit, m having 53 bits: the even and the odd, the least and the greatest.
		m := []uint64{1 << 52, 1<<52 + 1, 1<<53 - 2, 1<<53 - 1, 1<<52 + r.Uint64N(1<<52)}[i%5]
		half := new(mathbig.Int).SetUint64(2*m + 1)
		down := r.IntN(528)
		five := new(mathbig.Int).Exp(mathbig.NewInt(5), mathbig.NewInt(int64(down)), nil)
		check(five.Mul(five, half), -down)
		check(new(mathbig.Int).Lsh(half, uint(r.IntN(1100))), 0)
		check(half, r.IntN(20))
	}
	// What is infinite begins halfway beyond the greatest fraction.
	edge := new(mathbig.Int).Sub(new(mathbig.Int).Lsh(one, 1024), new(mathbig.Int).Lsh(one, 970))
	if got, e := float.Near(wordsOf(edge), 0); got != infinite || e != api.OK {
		t.Errorf("Near(2^1024 - 2^970) is %x, %d", got, e)
	}
	if got, e := float.Near(wordsOf(new(mathbig.Int).Sub(edge, one)), 0); got != greatest || e != api.OK {
		t.Errorf("Near(2^1024 - 2^970 - 1) is %x, %d", got, e)
	}
	for n := range 77 {
		check(new(mathbig.Int).Mul(edge, tenPower(one, n).Num()), -n)
	}
	for n := 1023; n <= 1026; n++ {
		check(new(mathbig.Int).Lsh(one, uint(n)), 0)
	}
}

// Halves of the least fractions have more digits than may be told: the nearest numbers that may be are at their sides.
func TestNearOfTheLeast(t *testing.T) {
	for m := range int64(40) {
		half := new(mathbig.Rat).SetInt64(2*m + 1)
		half.Mul(half, twoTo(-1075))
		for _, exp := range []int{-325, -330, -400, -600, -700} {
			for _, d := range besideIn(half, exp) {
				if d.Sign() >= 0 {
					checkNear(t, d, exp)
				}
			}
		}
	}
}

func TestNearOfMixedOnes(t *testing.T) {
	r := rand.New(rand.NewPCG(4, 42))
	for range 1000 {
		mant := new(mathbig.Int)
		for range 1 + r.IntN(40) {
			mant.Lsh(mant, 32).Add(mant, mathbig.NewInt(int64(r.Uint32())))
		}
		mant.Rsh(mant, uint(r.IntN(1280)))
		exp := r.IntN(800) - 500
		checkNear(t, mant, exp)
	}
	for exp := -1000; exp <= 1000; exp++ {
		checkNear(t, mathbig.NewInt(int64(r.Uint32())), exp)
	}
}

func TestNearOfEachFraction(t *testing.T) {
	for _, b := range someBits() {
		f := math.Float64frombits(b)
		// 17 digits are enough for each.
		head, tail, _ := strings.Cut(strconv.FormatFloat(f, 'e', 16, 64), "e")
		exp, _ := strconv.Atoi(tail)
		digits := strings.Replace(head, ".", "", 1)
		if got, e := float.Near(wordsOf(intOf(digits)), exp-16); got != b || e != api.OK {
			t.Errorf("Near(%s, %d) is %x, %d, not %x", digits, exp-16, got, e, b)
		}
	}
}

// P42: the fewest digits, and of those the nearest.

func TestShortOfPlainOnes(t *testing.T) {
	for _, c := range []struct {
		f      float64
		digits string
		exp    int
	}{
		{1, "1", 0}, {10, "1", 1}, {0.1, "1", -1}, {0.3, "3", -1}, {0.30000000000000004, "30000000000000004", -17},
		{1e22, "1", 22}, {1e23, "1", 23}, {123456, "123456", 0}, {1200, "12", 2},
		{5e-324, "5", -324}, {1e-323, "1", -323}, {1.5e-323, "15", -324},
		{2.2250738585072014e-308, "22250738585072014", -324}, {2.225073858507201e-308, "2225073858507201", -323},
		{math.MaxFloat64, "17976931348623157", 292},
		{9007199254740993, "9007199254740992", 0}, {9007199254740996, "9007199254740996", 0},
		// Two that are as near: the even one.
		{1<<50 + 0.25, "11258999068426242", -1}, {1<<50 + 0.75, "11258999068426248", -1},
		{1<<50 + 1.25, "11258999068426252", -1}, {1<<50 + 1.75, "11258999068426258", -1},
		// Powers of 2: the fractions below them are twice as dense as those above.
		{9007199254740992 * 2, "18014398509481984", 0}, {math.Ldexp(1, -44), "5684341886080802", -29},
	} {
		for _, sign := range []uint64{0, signBit} {
			digits, exp, e := float.Short(math.Float64bits(c.f) | sign)
			if digits != c.digits || exp != c.exp || e != api.OK {
				t.Errorf("Short(%v) is %s, %d, %d, not %s, %d", c.f, digits, exp, e, c.digits, c.exp)
			}
		}
	}
}

func TestShortOfEachFraction(t *testing.T) {
	for _, b := range someBits() {
		digits, exp := modelShort(b)
		got, gotExp, e := float.Short(b)
		if got != digits || gotExp != exp || e != api.OK {
			t.Errorf("Short(%x) is %s, %d, %d, not %s, %d", b, got, gotExp, e, digits, exp)
			continue
		}
		if back, e := float.Near(wordsOf(intOf(got)), gotExp); back != b || e != api.OK {
			t.Errorf("Near(%s, %d) is %x, %d, not %x", got, gotExp, back, e, b)
		}
		if got, gotExp, e := float.Short(b | signBit); got != digits || gotExp != exp || e != api.OK {
			t.Errorf("Short(%x) is %s, %d, %d: the sign counts", b|signBit, got, gotExp, e)
		}
	}
}

func TestShortOfWhatHasNone(t *testing.T) {
	for _, b := range []uint64{0, infinite, infinite + 1, infinite | 1<<51, infinite | 1<<51 | 1, 1<<63 - 1} {
		for _, sign := range []uint64{0, signBit} {
			if digits, exp, e := float.Short(b | sign); digits != "" || exp != 0 || e != api.ErrArg {
				t.Errorf("Short(%x) is %q, %d, %d, not ErrArg", b|sign, digits, exp, e)
			}
		}
	}
}

// P43: how a fraction is told.

func TestTextOfPlainOnes(t *testing.T) {
	for _, c := range []struct {
		bits uint64
		want string
	}{
		{0, "0.0"}, {signBit, "-0.0"}, {infinite, "inf"}, {signBit | infinite, "-inf"},
		{infinite + 1, "nan"}, {signBit | infinite | 1, "nan"}, {1<<63 - 1, "nan"}, {1<<64 - 1, "nan"},
		{math.Float64bits(1), "1.0"}, {math.Float64bits(-2.5), "-2.5"}, {math.Float64bits(0.1), "0.1"},
		{math.Float64bits(12.5), "12.5"}, {math.Float64bits(120), "120.0"}, {math.Float64bits(-100), "-100.0"},
		// p at its edges: -4, -3, 0, 1, 17, 18.
		{math.Float64bits(1e-5), "1e-5"}, {math.Float64bits(1.2e-5), "1.2e-5"},
		{math.Float64bits(1e-4), "0.0001"}, {math.Float64bits(9.99e-5), "9.99e-5"}, {math.Float64bits(1.25e-4), "0.000125"},
		{math.Float64bits(0.5), "0.5"}, {math.Float64bits(0.25), "0.25"},
		{math.Float64bits(1e16), "10000000000000000.0"}, {math.Float64bits(12e15), "12000000000000000.0"},
		{math.Float64bits(12345678901234568), "12345678901234568.0"},
		{math.Float64bits(1e17), "1e17"}, {math.Float64bits(-1.5e17), "-1.5e17"},
		{math.Float64bits(1234567890123456.75), "1234567890123456.8"},
		{1, "5e-324"}, {greatest, "1.7976931348623157e308"}, {signBit | greatest, "-1.7976931348623157e308"},
	} {
		if got := float.Text(c.bits); got != c.want {
			t.Errorf("Text(%x) is %s, not %s", c.bits, got, c.want)
		}
	}
}

// eachBits hands over someBits with both signs, and what has no digits.
func eachBits(do func(uint64)) {
	for _, b := range append([]uint64{0, infinite, infinite + 1, 1<<63 - 1, infinite | 1<<51 | 1}, someBits()...) {
		do(b)
		do(b | signBit)
	}
}

func TestTextOfEachFraction(t *testing.T) {
	eachBits(func(b uint64) {
		if got, want := float.Text(b), modelText(b); got != want {
			t.Errorf("Text(%x) is %s, not %s", b, got, want)
		}
	})
	// Each count of digits at each place of the point.
	for n := 1; n <= 17; n++ {
		for p := -6; p <= 20; p++ {
			f, _ := strconv.ParseFloat("98765432123456789"[:n]+"e"+strconv.Itoa(p-n), 64)
			if got, want := float.Text(math.Float64bits(f)), modelText(math.Float64bits(f)); got != want {
				t.Errorf("Text(%v) is %s, not %s", f, got, want)
			}
		}
	}
}

// P44: what was told is read as it was, and what is not of the form is not read.

func TestReadOfTexts(t *testing.T) {
	eachBits(func(b uint64) {
		want := b
		if b&^signBit > infinite {
			want = 0x7ff8000000000001
		}
		if got, e := float.Read(float.Text(b)); got != want || e != api.OK {
			t.Errorf("Read(%s) is %x, %d, not %x", float.Text(b), got, e, want)
		}
	})
}

// checkRead against the form, and against the library, which reads all of that form to the nearest.
func checkRead(t *testing.T, s string) {
	t.Helper()
	want, wantErr := uint64(0), api.OK
	f, err := strconv.ParseFloat(s, 64)
	switch {
	case len(s) > 80:
		wantErr = api.ErrLarge
	case s == "nan":
		want = 0x7ff8000000000001
	case s == "inf":
		want = infinite
	case s == "-inf":
		want = signBit | infinite
	case !modelForm.MatchString(s):
		wantErr = api.ErrForm
	case err != nil:
		wantErr = api.ErrRange
	default:
		want = math.Float64bits(f)
	}
	if got, e := float.Read(s); got != want || e != wantErr {
		t.Errorf("Read(%q) is %x, %d, not %x, %d", s, got, e, want, wantErr)
	}
}

func TestReadOfShortTexts(t *testing.T) {
	layer := []string{""}
	for range 7 {
		var next []string
		for _, s := range layer {
			checkRead(t, s)
			for _, c := range "09.e-+" {
				next = append(next, s+string(c))
			}
		}
		layer = next
	}
}

func TestReadOfWrongTexts(t *testing.T) {
	for _, s := range []string{
		"", "-", "+", ".", "e", "1", "-1", "0", "-0", "1.", ".5", "-.5", "1.e5", "1e", "1e-", "1e+", "1e+-5", "1e--5", "e5", "-e5",
		"01.5", "-01.5", "00.5", "00e5", "+1.0", "--1.0", "1.5.5", "1e5e5", "1e5.5", "1.5e5x", "x1.5", " 1.5", "1.5 ", "1.5\n", "1 .5",
		"1E5", "1.0E5", "1_0.0", "1.0_0", "1e1_0", "0x1.8p1", "0x1e5", "1.5f", "1,5", "١.٥", "1.\x00", "1.5\xff",
		"-nan", "+nan", "NaN", "nan ", "nan.0", "nane5", "+inf", "Inf", "-Inf", "--inf", "inf ", "infinity", "inf.0", "infe5", "na", "in",
	} {
		checkRead(t, s)
		if got, e := float.Read(s); got != 0 || e != api.ErrForm {
			t.Errorf("Read(%q) is %x, %d, not ErrForm", s, got, e)
		}
	}
	// Each byte at each place of good ones, put there and put in.
	for _, s := range []string{"1.5", "-0.25e-10", "10e+5", "inf", "-inf", "nan"} {
		for i := 0; i <= len(s); i++ {
			for c := range 256 {
				checkRead(t, s[:i]+string([]byte{byte(c)})+s[i:])
				if i < len(s) {
					checkRead(t, s[:i]+string([]byte{byte(c)})+s[i+1:])
				}
			}
		}
	}
}

func TestReadAtTheBounds(t *testing.T) {
	for n := 70; n <= 90; n++ {
		nines, noughts := strings.Repeat("9", n), strings.Repeat("0", n)
		for _, s := range []string{
			"0." + noughts, "1." + noughts, nines + ".0", "-" + nines + "e5", nines, "x" + noughts, "1" + noughts + "e-60", "0." + noughts + "1", "0." + noughts[:60] + "9e-400",
			"1e" + noughts, "1e" + nines, "1e-" + nines, "0e" + nines, "-0e" + nines, "-0.0e-" + nines, "0." + noughts[:5] + "e" + nines, "1e-" + noughts[:60] + "5", "2.5e+" + noughts + "5",
		} {
			checkRead(t, s)
		}
	}
	if got, e := float.Read(strings.Repeat("x", 81)); got != 0 || e != api.ErrLarge {
		t.Errorf("Read of 81 bytes is %x, %d", got, e)
	}
	if got, e := float.Read(strings.Repeat("x", 80)); got != 0 || e != api.ErrForm {
		t.Errorf("Read of 80 bytes is %x, %d", got, e)
	}
	if got, e := float.Read("1." + strings.Repeat("0", 78)); got != 1023<<52 || e != api.OK {
		t.Errorf("Read of 80 bytes is %x, %d", got, e)
	}
}

// The first digits of 2^1024 - 2^970, of half the least fraction, and of what lies halfway between two others, told up to one digit or the next, the point at each place.
func TestReadAtTheHalves(t *testing.T) {
	edge := new(mathbig.Rat).Sub(twoTo(1024), twoTo(970))
	one := new(mathbig.Rat).SetInt64(1<<53 + 1)
	for _, half := range []*mathbig.Rat{edge, twoTo(-1075), new(mathbig.Rat).Mul(twoTo(-1075), mathbig.NewRat(3, 1)), one, new(mathbig.Rat).Mul(one, twoTo(-70)), new(mathbig.Rat).Mul(one, twoTo(90))} {
		for n := 1; n <= 70; n++ {
			exp := modelDecade(half) - n + 1
			for _, d := range besideIn(half, exp) {
				digits := d.String()
				for point := 1; point < len(digits); point += 1 + n/3 {
					checkRead(t, digits[:point]+"."+digits[point:]+"e"+strconv.Itoa(exp+len(digits)-point))
				}
				checkRead(t, "-"+digits+"e"+strconv.Itoa(exp))
			}
		}
	}
	for s, want := range map[string]api.Errno{"1.7976931348623158e308": api.OK, "-1.7976931348623158e308": api.OK, "1.7976931348623159e308": api.ErrRange, "-1.7976931348623159e308": api.ErrRange, "1e309": api.ErrRange, "1e-400": api.OK, "0e309": api.OK} {
		if _, e := float.Read(s); e != want {
			t.Errorf("Read(%s) is %d, not %d", s, e, want)
		}
	}
}

func TestReadKeepsTheSignOfNought(t *testing.T) {
	for s, want := range map[string]uint64{"0.0": 0, "-0.0": signBit, "-0e5": signBit, "0.000e-7": 0, "-1e-400": signBit, "1e-400": 0, "-2.4e-324": signBit, "-2.5e-324": signBit | 1} {
		if got, e := float.Read(s); got != want || e != api.OK {
			t.Errorf("Read(%s) is %x, %d, not %x", s, got, e, want)
		}
	}
}
