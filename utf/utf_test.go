package utf_test

import (
	"math"
	"slices"
	"strings"
	"testing"

	"typecase/api"
	"typecase/utf"
)

// P10

func TestSizeOfEveryNumber(t *testing.T) {
	for n := -0x100; n < 0x110100; n++ {
		want := 0
		if isScalar(n) {
			want = len(code(n))
		}
		if got := utf.Size(rune(n)); got != want {
			t.Fatalf("Size(%x): %d, not %d", n, got, want)
		}
	}
	for _, r := range []rune{math.MinInt32, math.MinInt32 + 0x41, math.MaxInt32, 0x110000 + 0x41, 0x1000000} {
		if got := utf.Size(r); got != 0 {
			t.Errorf("Size(%x): %d", r, got)
		}
	}
}

func TestNextOfEveryScalar(t *testing.T) {
	for n := 0; n <= 0x10ffff; n++ {
		if !isScalar(n) {
			continue
		}
		c := code(n)
		for _, behind := range []string{"", "x", "\x80", "\xff", c} {
			if r, size := utf.Next(c + behind); r != rune(n) || size != len(c) {
				t.Fatalf("Next(%q): %x %d", c+behind, r, size)
			}
		}
		for size := 1; size < len(c); size++ {
			if r, k := utf.Next(c[:size]); r != -1 || k != 1 {
				t.Fatalf("Next(%q), cut short: %x %d", c[:size], r, k)
			}
		}
	}
}

func TestNextOfNoScalar(t *testing.T) {
	if r, n := utf.Next(""); r != -1 || n != 0 {
		t.Errorf("Next of nothing: %x %d", r, n)
	}
	for _, s := range []string{
		"\x80", "\xbf", "\xc0\x80", "\xc1\xbf", "\xe0\x9f\xbf", "\xf0\x8f\xbf\xbf", // too long for what they stand for
		"\xed\xa0\x80", "\xed\xbf\xbf", "\xf4\x90\x80\x80", "\xf7\xbf\xbf\xbf", // numbers that are no scalars
		"\xf8\x88\x80\x80\x80", "\xfc\x84\x80\x80\x80\x80", "\xfe", "\xff",
		"\xc3a", "\xe2\x82a", "\xf0\x9f\x98a", "\xc3\xc3",
	} {
		if r, n := utf.Next(s); r != -1 || n != 1 {
			t.Errorf("Next(%q): %x %d", s, r, n)
		}
	}
}

func TestNextOfEveryStart(t *testing.T) {
	check := func(b ...byte) {
		s := string(b)
		want, size := next(s)
		if r, n := utf.Next(s); r != want || n != size {
			t.Fatalf("Next(%q): %x %d, not %x %d", s, r, n, want, size)
		}
	}
	for a := range 256 {
		check(byte(a))
		for b := range 256 {
			check(byte(a), byte(b))
		}
	}
	edges := []byte("\x00A\x7f\x80\x81\x8f\x90\x9f\xa0\xbf\xc0\xc1\xc2\xdf\xe0\xe1\xec\xed\xee\xef\xf0\xf1\xf3\xf4\xf5\xff")
	for _, a := range edges {
		for _, b := range edges {
			for _, c := range edges {
				check(a, b, c)
				for _, d := range edges {
					check(a, b, c, d)
				}
			}
		}
	}
}

func TestCodeOfTheExample(t *testing.T) {
	if s, e := utf.Text([]rune{8364}); s != "\xe2\x82\xac" || e != api.OK {
		t.Errorf("%q %d", s, e)
	}
}

// P11

func TestBadOfMixedTexts(t *testing.T) {
	for _, s := range mixed() {
		if got, want := utf.Bad(s), walkOf(s).bad; got != want {
			t.Fatalf("Bad(%q): %d, not %d", s, got, want)
		}
	}
}

func TestRunesOfMixedTexts(t *testing.T) {
	for _, s := range mixed() {
		w := walkOf(s)
		l, e := utf.Runes(s)
		if w.bad >= 0 {
			if len(l) != 0 || e != api.ErrText {
				t.Fatalf("Runes(%q): %x %d", s, l, e)
			}
			continue
		}
		if e != api.OK || !slices.Equal(l, w.runes) {
			t.Fatalf("Runes(%q): %x %d, not %x", s, l, e, w.runes)
		}
		if back, e := utf.Text(l); back != s || e != api.OK {
			t.Fatalf("Text(%x): %q %d", l, back, e)
		}
	}
}

func TestTextOfEveryNumber(t *testing.T) {
	for n := -0x100; n < 0x110100; n++ {
		want, wantErr := "", api.ErrText
		if isScalar(n) {
			want, wantErr = "a"+code(n)+"b", api.OK
		}
		if s, e := utf.Text([]rune{'a', rune(n), 'b'}); s != want || e != wantErr {
			t.Fatalf("Text around %x: %q %d", n, s, e)
		}
	}
}

func TestTextOfWrongElements(t *testing.T) {
	for _, wrong := range []rune{-1, 0xd800, 0xdfff, 0x110000, math.MinInt32, math.MaxInt32} {
		for at := range 4 {
			l := slices.Insert([]rune{'a', 0x20ac, 0xfffd}, at, wrong)
			if s, e := utf.Text(l); s != "" || e != api.ErrText {
				t.Errorf("Text(%x): %q %d", l, s, e)
			}
		}
	}
}

func TestRunesAndTextOfNothing(t *testing.T) {
	if l, e := utf.Runes(""); len(l) != 0 || e != api.OK {
		t.Errorf("%x %d", l, e)
	}
	for _, l := range [][]rune{nil, {}} {
		if s, e := utf.Text(l); s != "" || e != api.OK {
			t.Errorf("%q %d", s, e)
		}
	}
	if at := utf.Bad(""); at != -1 {
		t.Error(at)
	}
}

func TestLongTexts(t *testing.T) {
	good := strings.Repeat("a\u00e9\u20ac\U0001f600\ufffd", 20000)
	l, e := utf.Runes(good)
	if e != api.OK || len(l) != 100000 || utf.Bad(good) != -1 || utf.Clean(good) != good {
		t.Error(len(l), e)
	}
	if s, e := utf.Text(l); s != good || e != api.OK {
		t.Error(len(s), e)
	}
	if k, e := utf.Cut(good, 99999); k != len(good)-3 || e != api.OK {
		t.Error(k, e)
	}
	if at := utf.Bad(good + "\xff"); at != len(good) {
		t.Error(at)
	}
}

// P12

func TestCleanOfMixedTexts(t *testing.T) {
	for _, s := range mixed() {
		got := utf.Clean(s)
		if want := walkOf(s).clean; got != want {
			t.Fatalf("Clean(%q): %q, not %q", s, got, want)
		}
		if utf.Bad(got) != -1 {
			t.Fatalf("Clean(%q) is not good: %q", s, got)
		}
	}
}

func TestCleanPutsOneForEachByte(t *testing.T) {
	for s, want := range map[string]string{
		"":                         "",
		"\xff":                     "\ufffd",
		"\xff\xff\xff":             "\ufffd\ufffd\ufffd",
		"\xed\xa0\x80":             "\ufffd\ufffd\ufffd",
		"\xf0\x9f\x98":             "\ufffd\ufffd\ufffd",
		"\xf4\x90\x80\x80":         "\ufffd\ufffd\ufffd\ufffd",
		"\xe2\x82\u20ac":           "\ufffd\ufffd\u20ac",
		"\ufffd\xef\xbf":           "\ufffd\ufffd\ufffd",
		"a\xc3\u00e9\x80\x00\xe2b": "a\ufffd\u00e9\ufffd\x00\ufffdb",
	} {
		if got := utf.Clean(s); got != want {
			t.Errorf("Clean(%q): %q, not %q", s, got, want)
		}
	}
}

func TestCutOfMixedTexts(t *testing.T) {
	for _, s := range mixed() {
		w := walkOf(s)
		ends := append([]int{0}, w.ends...)
		for n := -1; n <= len(ends); n++ {
			want, wantErr := 0, api.ErrArg
			if w.bad >= 0 {
				wantErr = api.ErrText
			} else if n >= 0 && n < len(ends) {
				want, wantErr = ends[n], api.OK
			}
			if k, e := utf.Cut(s, n); k != want || e != wantErr {
				t.Fatalf("Cut(%q, %d): %d %d, not %d %d", s, n, k, e, want, wantErr)
			}
		}
	}
}

func TestCutFarOutside(t *testing.T) {
	for _, n := range []int{math.MinInt, -2, 3, math.MaxInt} {
		if k, e := utf.Cut("\u00e9a", n); k != 0 || e != api.ErrArg {
			t.Errorf("Cut at %d: %d %d", n, k, e)
		}
		if k, e := utf.Cut("\u00e9a\xff", n); k != 0 || e != api.ErrText {
			t.Errorf("Cut of a text that is not good, at %d: %d %d", n, k, e)
		}
	}
}

// P2

func TestWhatIsHandedInStays(t *testing.T) {
	room := []rune{'a', 0x20ac, 0xd800, 'z'}
	kept := slices.Clone(room)
	if s, e := utf.Text(room[:2]); s != "a\u20ac" || e != api.OK {
		t.Errorf("%q %d", s, e)
	}
	utf.Text(room)
	if !slices.Equal(room, kept) {
		t.Errorf("%x", room)
	}
}

func TestAnswersAreNewMemory(t *testing.T) {
	first, _ := utf.Runes("ab")
	second, _ := utf.Runes("ab")
	first[0] = 'x'
	_ = append(first[:1], 'y')
	if !slices.Equal(second, []rune{'a', 'b'}) {
		t.Errorf("%x", second)
	}
}
