package esc_test

import (
	"fmt"
	"math/rand/v2"
	"regexp"
	"strconv"
	"strings"
	"unicode/utf8"

	"typecase/api"
)

// The reference of these tests: the document's words as patterns, and the library's reading of runes.

// modelQuote by P60's words.
func modelQuote(s string) (string, api.Errno) {
	if !utf8.ValidString(s) {
		return "", api.ErrText
	}
	said := []string{}
	for _, r := range s {
		said = append(said, modelScalar(r))
	}
	return `"` + strings.Join(said, "") + `"`, api.OK
}

// modelScalar as it stands between quotes.
func modelScalar(r rune) string {
	if told, ok := map[rune]string{'"': `\"`, '\\': `\\`, 10: `\n`, 9: `\t`, 13: `\r`}[r]; ok {
		return told
	}
	if r < 32 || r == 127 {
		return fmt.Sprintf(`\u{%x}`, r)
	}
	return string(r)
}

// escapeForm is what may begin with a `\`; the groups are the byte behind it, and the digits of a scalar.
var escapeForm = regexp.MustCompile(`\A\\(?:(["\\/ntr])|u\{([0-9a-fA-F]{1,6})\})`)

// modelUnquote by P61's words.
func modelUnquote(q string) (string, int, api.Errno) {
	if !strings.HasPrefix(q, `"`) {
		return "", 0, api.ErrForm
	}
	said, rest := "", q[1:]
	for !strings.HasPrefix(rest, `"`) {
		one, size, e := modelNext(rest)
		if e != api.OK {
			return "", 0, e
		}
		said, rest = said+one, rest[size:]
	}
	return said, len(q) - len(rest) + 1, api.OK
}

// modelNext: what is said at the front of the rest, and of how many bytes it is.
func modelNext(rest string) (string, int, api.Errno) {
	if rest == "" || rest[0] == 10 {
		return "", 0, api.ErrForm
	}
	if rest[0] == '\\' {
		groups := escapeForm.FindStringSubmatch(rest)
		if groups == nil {
			return "", 0, api.ErrForm
		}
		if groups[2] == "" {
			return strings.NewReplacer("n", "\n", "t", "\t", "r", "\r").Replace(groups[1]), 2, api.OK
		}
		n, _ := strconv.ParseInt(groups[2], 16, 64)
		if !utf8.ValidRune(rune(n)) {
			return "", 0, api.ErrText
		}
		return string(rune(n)), len(groups[0]), api.OK
	}
	for size := 1; size <= utf8.UTFMax && size <= len(rest); size++ {
		if utf8.ValidString(rest[:size]) {
			return rest[:size], size, api.OK
		}
	}
	return "", 0, api.ErrText
}

// bareForm is P62's bare key, but for the words that are none and the bound.
var bareForm = regexp.MustCompile(`\A[a-zA-Z_][a-zA-Z0-9_-]*\z`)

// modelBare by P62's words.
func modelBare(s string) bool {
	for _, word := range strings.Split("null true false nan inf", " ") {
		if s == word {
			return false
		}
	}
	return len(s) <= 100 && bareForm.MatchString(s)
}

// modelKey by P62's words.
func modelKey(s string) (string, api.Errno) {
	if modelBare(s) {
		return s, api.OK
	}
	return modelQuote(s)
}

// pieces of which mixed texts are made: signs that mean something, edges of the codes, and what is no code.
func pieces() []string {
	return []string{
		"a", "n", "t", "r", "u", "u{", "{", "}", `"`, `\`, `\\`, `\"`, `\/`, `\n`, `\t`, `\r`, `\u{`, `\u{41}`, `\u{0}`, `\u{D7FF}`, `\u{d800}`,
		`\u{10ffff}`, `\u{110000}`, "/", "0", "41", "F", "g", " ", "-", "_", "\n", "\t", "\r", "\x00", "\x1f", "\x7f", "\u0080", "\u07ff", "\u0800",
		"\ud7ff", "\ue000", "\ufffd", "\uffff", "\U00010000", "\U0010ffff", "\x80", "\xbf", "\xc0\x80", "\xc2", "\xed\xa0\x80", "\xe2\x82", "\xf4\x90\x80\x80", "\xff",
	}
}

// mixed texts of these pieces; the same ones in each run.
func mixed(pieces []string, count int) []string {
	source := rand.New(rand.NewPCG(6, 60))
	var l []string
	for i := range count {
		var b strings.Builder
		for range source.IntN(2 + i%12) {
			b.WriteString(pieces[source.IntN(len(pieces))])
		}
		l = append(l, b.String())
	}
	return l
}

// eachText of up to length signs.
func eachText(signs []string, length int) []string {
	all := []string{""}
	last := all
	for range length {
		var longer []string
		for _, s := range last {
			for _, c := range signs {
				longer = append(longer, s+c)
			}
		}
		all = append(all, longer...)
		last = longer
	}
	return all
}
