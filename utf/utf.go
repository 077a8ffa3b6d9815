// Package utf: runes: see ../shared/doc/01-utf.md.
package utf

import (
	"strings"
	"unicode/utf8"

	"typecase/api"
)

// Next rune of a text.
func Next(s string) (rune, int) {
	r, n := utf8.DecodeRuneInString(s)
	// The library tells fffd where no code begins, but its own code has three bytes.
	if r == utf8.RuneError && n <= 1 {
		return -1, n
	}
	return r, n
}

// Bad: where no rune begins.
func Bad(s string) int {
	for at, r := range s {
		if r == utf8.RuneError && startsBad(s[at:]) {
			return at
		}
	}
	return -1
}

// startsBad tells a byte at which no code begins from the code of fffd: range hands out the same rune for both.
func startsBad(s string) bool {
	r, _ := Next(s)
	return r < 0
}

// Runes of a good text.
func Runes(s string) ([]rune, api.Errno) {
	if Bad(s) >= 0 {
		return nil, api.ErrText
	}
	var l []rune
	for _, r := range s {
		l = append(l, r)
	}
	return l, api.OK
}

// Text of runes.
func Text(l []rune) (string, api.Errno) {
	var b strings.Builder
	for _, r := range l {
		if Size(r) == 0 {
			return "", api.ErrText
		}
		b.WriteRune(r)
	}
	return b.String(), api.OK
}

// Size of a rune's code.
func Size(r rune) int {
	switch {
	case r < 0, 0xd800 <= r && r <= 0xdfff, r > 0x10ffff:
		return 0
	case r < 0x80:
		return 1
	case r < 0x800:
		return 2
	case r < 0x10000:
		return 3
	}
	return 4
}

// Clean: what is no rune becomes one.
func Clean(s string) string {
	var b strings.Builder
	// Range goes on one byte behind each at which no code begins, and hands out fffd for it: just what is to stand there.
	for _, r := range s {
		b.WriteRune(r)
	}
	return b.String()
}

// Cut behind n runes.
func Cut(s string, n int) (int, api.Errno) {
	if Bad(s) >= 0 {
		return 0, api.ErrText
	}
	seen := 0
	for at := range s {
		if seen == n {
			return at, api.OK
		}
		seen++
	}
	if seen == n {
		return len(s), api.OK
	}
	return 0, api.ErrArg
}
