package num_test

import (
	"math"
	mathbig "math/big"
	"strings"
	"testing"

	"typecase/api"
	"typecase/num"
)

// P50: numerals are read.

// checkRead against the model.
func checkRead(t *testing.T, s string) {
	t.Helper()
	want, wantErr := modelRead(s)
	if n, e := num.Read(s); n != want || e != wantErr {
		t.Errorf("Read(%q) is %d, %d, not %d, %d", s, n, e, want, wantErr)
	}
}

func TestReadWhatTheDocumentNames(t *testing.T) {
	for s, want := range map[string]int64{
		"0": 0, "-0": 0, "7": 7, "-7": -7, "10": 10, "1_0": 10, "1_000_000": 1000000,
		"0xf_f": 255, "0xFf": 255, "0xABCDEF": 0xabcdef, "0xabcdef": 0xabcdef, "-0x0_1": -1, "0x00": 0,
		"0o17": 15, "0o0_7": 7, "-0o10": -8, "0b101": 5, "-0b1_1": -3, "0b01": 1,
		"9223372036854775807": math.MaxInt64, "-9223372036854775808": math.MinInt64,
		"0x7fffffffffffffff": math.MaxInt64, "-0x8000000000000000": math.MinInt64,
		"0o777777777777777777777": math.MaxInt64, "-0o1000000000000000000000": math.MinInt64,
		"0b" + strings.Repeat("1", 63): math.MaxInt64, "-0b1" + strings.Repeat("0", 63): math.MinInt64,
	} {
		if n, e := num.Read(s); n != want || e != api.OK {
			t.Errorf("Read(%q) is %d, %d, not %d", s, n, e, want)
		}
	}
}

func TestReadRefuses(t *testing.T) {
	for want, list := range map[api.Errno][]string{
		api.ErrForm: {
			"", "-", "--1", "+1", "-+1", " 1", "1 ", "1\n", "1\x00", "- 1", "1-", "00", "01", "-01", "0_0", "0_1", "-0_1",
			"_", "_1", "-_1", "1_", "1__0", "1_-0", "0x", "-0x", "0x_1", "0x1_", "0x1__1", "0_x1", "0x-1", "0xg", "0X1", "0O1", "0B1",
			"x1", "0o", "0o8", "0o_1", "0b", "0b2", "0b_1", "0x0x1", "00x1", "1x1", "1a", "a", "f", "0a", "0f", "1.0", "1e5", "inf", "١", "1١",
			"99999999999999999999x", "99999999999999999999_", "099999999999999999999",
		},
		api.ErrRange: {
			"9223372036854775808", "-9223372036854775809", "0x8000000000000000", "-0x8000000000000001", "18446744073709551616",
			"0x1_0000_0000_0000_0000", "0o1000000000000000000000", "-0o1000000000000000000001", "0b1" + strings.Repeat("0", 63),
			"-0b1" + strings.Repeat("0", 62) + "1", strings.Repeat("9", 80), "-" + strings.Repeat("9", 79), "0x" + strings.Repeat("f", 78),
		},
		api.ErrLarge: {
			strings.Repeat("1", 81), strings.Repeat("0", 81), strings.Repeat("x", 81), "0x" + strings.Repeat("0", 79),
			"-" + strings.Repeat("1", 80), strings.Repeat("1", 80) + "_", strings.Repeat(" ", 100000),
		},
	} {
		for _, s := range list {
			if n, e := num.Read(s); n != 0 || e != want {
				t.Errorf("Read(%q) is %d, %d, not 0, %d", s, n, e, want)
			}
		}
	}
}

func TestReadEachShortText(t *testing.T) {
	signs := "-0178abfFgxXo_."
	texts := []string{""}
	for range 5 {
		var longer []string
		for _, s := range texts {
			checkRead(t, s)
			for _, c := range signs {
				longer = append(longer, s+string(c))
			}
		}
		texts = longer
	}
	for _, s := range texts {
		checkRead(t, s)
	}
}

func TestReadEachTwoBytes(t *testing.T) {
	for a := range 256 {
		checkRead(t, string([]byte{byte(a)}))
		for b := range 256 {
			checkRead(t, string([]byte{byte(a), byte(b)}))
		}
	}
}

func TestReadWithEachByteAtEachPlace(t *testing.T) {
	for _, s := range []string{"-12_345", "0xAb_c9", "-0o17_0", "0b1_01", "-0", "9223372036854775807", "-0x8000000000000000"} {
		for i := range len(s) {
			for c := range 256 {
				checkRead(t, s[:i]+string([]byte{byte(c)})+s[i:])
				checkRead(t, s[:i]+string([]byte{byte(c)})+s[i+1:])
			}
			checkRead(t, s[:i]+s[i+1:])
			checkRead(t, s[:i])
		}
	}
}

func TestReadEachBase(t *testing.T) {
	for _, n := range someNumbers() {
		for _, base := range bases {
			s := numeral(mathbig.NewInt(n), base, 0)
			for _, form := range []string{s, parted(s, base)} {
				if len(form) > api.MaxNumber {
					checkRead(t, form)
				} else if got, e := num.Read(form); got != n || e != api.OK {
					t.Errorf("Read(%q) is %d, %d, not %d", form, got, e, n)
				}
			}
			if base == 16 {
				checkRead(t, strings.Replace(strings.ToUpper(s), "0X", "0x", 1))
			}
		}
	}
}

func TestReadAtTheEndsAndBeyond(t *testing.T) {
	for _, n := range greatNumbers() {
		for _, base := range bases {
			for _, noughts := range []int{0, 1, 12} {
				checkRead(t, numeral(n, base, noughts))
			}
		}
	}
}

func TestReadAtMostMaxNumberBytes(t *testing.T) {
	for _, ahead := range []string{"", "-", "0x", "-0x", "0o", "-0b", "_"} {
		for _, with := range []string{"0", "1", "_0", "_1", "0_", "x"} {
			for size := 70; size <= 90; size++ {
				s := ahead + strings.Repeat(with, 90)[:size-len(ahead)]
				checkRead(t, s)
				checkRead(t, s[:size-1]+"1")
			}
		}
	}
	longest := "-0x" + strings.Repeat("0", 75) + "10"
	if n, e := num.Read(longest); n != -16 || e != api.OK || len(longest) != 80 {
		t.Errorf("Read(%q) is %d, %d", longest, n, e)
	}
}

// P51: numbers are told.

func TestText(t *testing.T) {
	for n, want := range map[int64]string{0: "0", 7: "7", -7: "-7", 1000: "1000", math.MaxInt64: "9223372036854775807", math.MinInt64: "-9223372036854775808"} {
		if s := num.Text(n); s != want {
			t.Errorf("Text(%d) is %q", n, s)
		}
	}
	for _, n := range someNumbers() {
		if s, want := num.Text(n), mathbig.NewInt(n).String(); s != want {
			t.Errorf("Text is %q, not %q", s, want)
		}
	}
}

func TestBase(t *testing.T) {
	for _, c := range []struct {
		n    int64
		base int
		want string
	}{
		{0, 2, "0b0"}, {0, 8, "0o0"}, {0, 10, "0"}, {0, 16, "0x0"}, {-1, 16, "-0x1"}, {-1, 10, "-1"},
		{0xabcdef, 16, "0xabcdef"}, {1000000, 10, "1000000"}, {-8, 8, "-0o10"}, {5, 2, "0b101"},
		{math.MinInt64, 2, "-0b1" + strings.Repeat("0", 63)}, {math.MinInt64, 8, "-0o1" + strings.Repeat("0", 21)},
		{math.MinInt64, 10, "-9223372036854775808"}, {math.MinInt64, 16, "-0x8000000000000000"},
		{math.MaxInt64, 16, "0x7fffffffffffffff"}, {math.MaxInt64, 2, "0b" + strings.Repeat("1", 63)},
	} {
		if s, e := num.Base(c.n, c.base); s != c.want || e != api.OK {
			t.Errorf("Base(%d, %d) is %q, %d, not %q", c.n, c.base, s, e, c.want)
		}
	}
}

func TestBaseOfEachNumber(t *testing.T) {
	for _, n := range someNumbers() {
		for _, base := range bases {
			want := numeral(mathbig.NewInt(n), base, 0)
			s, e := num.Base(n, base)
			if s != want || e != api.OK {
				t.Errorf("Base(%d, %d) is %q, %d, not %q", n, base, s, e, want)
			}
			if back, e := num.Read(s); back != n || e != api.OK {
				t.Errorf("Read(%q) is %d, %d, not %d", s, back, e, n)
			}
		}
		if s, e := num.Base(n, 10); s != num.Text(n) || e != api.OK {
			t.Errorf("Base(%d, 10) is %q, %d", n, s, e)
		}
	}
}

func TestBaseRefuses(t *testing.T) {
	wrong := []int{math.MinInt, math.MinInt + 10, 1<<32 + 10, 1<<32 + 16, math.MaxInt}
	for base := -300; base <= 300; base++ {
		if base != 2 && base != 8 && base != 10 && base != 16 {
			wrong = append(wrong, base)
		}
	}
	for _, base := range wrong {
		for _, n := range []int64{0, 1, -1, math.MinInt64, math.MaxInt64} {
			if s, e := num.Base(n, base); s != "" || e != api.ErrArg {
				t.Errorf("Base(%d, %d) is %q, %d", n, base, s, e)
			}
		}
	}
}
