package esc

import (
	"strings"

	"typecase/api"
	"typecase/utf"
)

// What stands ahead of and behind a scalar's hexadecimal digits, and how many of these there may be.
const (
	numberAhead  = `\u{`
	numberBehind = `}`
	numberDigits = 6
)

// Unquote what stands at the front.
func Unquote(q string) (string, int, api.Errno) {
	if q == "" || q[0] != '"' {
		return "", 0, api.ErrForm
	}
	var b strings.Builder
	at := 1
	for at < len(q) && q[at] != '"' {
		r, n, e := next(q[at:])
		if e != api.OK {
			return "", 0, e
		}
		b.WriteRune(r)
		at += n
	}
	if at == len(q) {
		return "", 0, api.ErrForm
	}
	return b.String(), at + 1, api.OK
}

// next scalar that is said at the front of q, which is not empty, and of how many bytes it is there.
func next(q string) (rune, int, api.Errno) {
	switch q[0] {
	case '\n':
		return 0, 0, api.ErrForm
	case '\\':
		return escaped(q)
	}
	r, n := utf.Next(q)
	if r < 0 {
		return 0, 0, api.ErrText
	}
	return r, n, api.OK
}

// escaped: next, where q begins with a `\`.
func escaped(q string) (rune, int, api.Errno) {
	if digits, ok := strings.CutPrefix(q, numberAhead); ok {
		return numbered(digits)
	}
	if len(q) < 2 {
		return 0, 0, api.ErrForm
	}
	switch q[1] {
	case '"', '\\', '/':
		return rune(q[1]), 2, api.OK
	case 'n':
		return '\n', 2, api.OK
	case 't':
		return '\t', 2, api.OK
	case 'r':
		return '\r', 2, api.OK
	}
	return 0, 0, api.ErrForm
}

// numbered: next, where s follows what stands ahead of a scalar's digits.
func numbered(s string) (rune, int, api.Errno) {
	r, n := rune(0), 0
	// The bound keeps the sum below 2^24, however many digits there are.
	for n < len(s) && n < numberDigits && digitOf(s[n]) >= 0 {
		r = r<<4 + digitOf(s[n])
		n++
	}
	if n == 0 || !strings.HasPrefix(s[n:], numberBehind) {
		return 0, 0, api.ErrForm
	}
	if utf.Size(r) == 0 {
		return 0, 0, api.ErrText
	}
	return r, len(numberAhead) + n + len(numberBehind), api.OK
}

// digitOf a byte to base 16; -1, if it is none.
func digitOf(c byte) rune {
	switch {
	case '0' <= c && c <= '9':
		return rune(c - '0')
	case 'a' <= c && c <= 'f':
		return rune(c-'a') + 10
	case 'A' <= c && c <= 'F':
		return rune(c-'A') + 10
	}
	return -1
}
