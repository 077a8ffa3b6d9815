package tok_test

import (
	"math/rand/v2"
	"regexp"
	"strings"

	"typecase/api"
)

// The reference of these tests: the document's words as patterns.

// forms of the kinds from KBlank to KMark, in this order, each at the front of a text.
var forms = []*regexp.Regexp{
	regexp.MustCompile(`\A[\x20\x09\x0d]+`),
	regexp.MustCompile(`\A\x0a`),
	regexp.MustCompile(`\A(?:#[^\x0a]*|(?s:/\*.*?\*/))`),
	regexp.MustCompile(`\A[a-zA-Z0-9_\-+.]+`),
	regexp.MustCompile(`\A"(?:[^"\\\x0a]|\\[^\x0a])*"`),
	regexp.MustCompile(`\A[{}\[\]:=,]`),
}

// modelCut by P70's words.
func modelCut(s string) ([]api.Token, api.Errno) {
	if len(s) > 20000 {
		return nil, api.ErrLarge
	}
	var l []api.Token
	for at := 0; at < len(s); {
		kind, size := modelNext(s[at:])
		l = append(l, api.Token{Kind: kind, At: at, End: at + size})
		at += size
	}
	return l, api.OK
}

// modelNext: the kind of the token at the front, and of how many bytes it is.
func modelNext(rest string) (int, int) {
	for i, form := range forms {
		if found := form.FindString(rest); found != "" {
			return i + 1, len(found)
		}
	}
	return 7, 1
}

// pieces of which mixed texts are made: all that opens, closes or goes on, and what does none of these.
func pieces() []string {
	return []string{
		" ", "\t", "\r", "\n", "\r\n", "  ", "#", "# a", "##", "/", "*", "/*", "*/", "/**/", "/*/", "//", "/* a */", "a", "Z", "0", "9", "_", "-", "+", ".", "-1.5e+3",
		`"`, `\`, `\\`, `\"`, `\n`, `""`, `"a"`, `"\""`, "\\\n", `"#"`, `"/*"`, `"*/"`, "{", "}", "[", "]", ":", "=", ",", "a: 1", ";", "'", "`", "|", "~", "\x00", "\x0b", "\x0c", "\x1f", "\x7f",
		"é", "€", "\u00a0", "\u2028", "\ufeff", "\ufffd", "\U0001f600", "\x80", "\xc3", "\xff",
	}
}

// mixed texts of these pieces; the same ones in each run.
func mixed(pieces []string, count int) []string {
	source := rand.New(rand.NewPCG(7, 70))
	var l []string
	for i := range count {
		var b strings.Builder
		for range source.IntN(2 + i%40) {
			b.WriteString(pieces[source.IntN(len(pieces))])
		}
		l = append(l, b.String())
	}
	return l
}

// eachText of up to length signs.
func eachText(signs []string, length int) []string {
	all := []string{""}
	last := all
	for range length {
		var longer []string
		for _, s := range last {
			for _, c := range signs {
				longer = append(longer, s+c)
			}
		}
		all = append(all, longer...)
		last = longer
	}
	return all
}
