package tok_test

import (
	"fmt"
	"math"
	"slices"
	"strings"
	"testing"

	"typecase/api"
	"typecase/esc"
	"typecase/float"
	"typecase/num"
	"typecase/tok"
)

// P70: a text is cut into tokens.

// checkCut against the model.
func checkCut(t *testing.T, s string) {
	t.Helper()
	want, wantErr := modelCut(s)
	if l, e := tok.Cut(s); !slices.Equal(l, want) || e != wantErr {
		t.Errorf("Cut(%.200q) is %v, %d, not %v, %d", s, l, e, want, wantErr)
	}
}

// checkPieces: is the text of these pieces cut into just them, of these kinds (a digit each)?
func checkPieces(t *testing.T, kinds string, pieces ...string) {
	t.Helper()
	if len(kinds) != len(pieces) {
		t.Fatalf("%s: %d kinds, %d pieces", kinds, len(kinds), len(pieces))
	}
	var want []api.Token
	at := 0
	for i, piece := range pieces {
		want = append(want, api.Token{Kind: int(kinds[i] - '0'), At: at, End: at + len(piece)})
		at += len(piece)
	}
	s := strings.Join(pieces, "")
	if l, e := tok.Cut(s); !slices.Equal(l, want) || e != api.OK {
		t.Errorf("Cut(%.200q) is %v, %d, not %v", s, l, e, want)
	}
}

func TestCutOrdinaryTexts(t *testing.T) {
	checkPieces(t, "")
	checkPieces(t, "4614", "a", ":", " ", "1")
	checkPieces(t, "641414666466", "{", "a", " ", "b", "\t", "c", "=", ",", "[", "d", "]", "}")
	checkPieces(t, "32146153123", "# a note", "\n", "  ", "key", ":", " ", `"a text"`, "/* one */", " ", "\n", "/* two\n lines */")
	checkPieces(t, "6454656", "{", "a", `"b"`, "c", ":", `"d"`, "}")
	checkPieces(t, "142", "\r", "a", "\n")
}

func TestCutBlanksAndLines(t *testing.T) {
	checkPieces(t, "1", " \t\r \r\t")
	checkPieces(t, "22", "\n", "\n")
	checkPieces(t, "1212", "\r", "\n", "\r", "\n")
	checkPieces(t, "121", " ", "\n", "\t")
	checkPieces(t, "1771", " ", "\x0b", "\x0c", " ")
	checkPieces(t, "77", "\xc2", "\xa0")
}

func TestCutNotesOfOneLine(t *testing.T) {
	checkPieces(t, "3", "#")
	checkPieces(t, "323", "#", "\n", "#")
	checkPieces(t, "32", "# a # b", "\n")
	checkPieces(t, "324", "# a\r", "\n", "b")
	checkPieces(t, "3241", `# "`, "\n", "a", " ")
	checkPieces(t, "32477", "# /*", "\n", "a", "*", "/")
	checkPieces(t, "324", "# \xff\x00€\\", "\n", "b")
	checkPieces(t, "43", "a", "#b {}")
}

func TestCutNotesOverLines(t *testing.T) {
	checkPieces(t, "3", "/**/")
	checkPieces(t, "3", "/***/")
	checkPieces(t, "3", "/*/*/")
	checkPieces(t, "3", "/* a\n\n # b \" \xff */")
	checkPieces(t, "34", "/* a\n */", "x")
	checkPieces(t, "33", "/**/", "/**/")
	checkPieces(t, "3177", "/* /* */", " ", "*", "/")
	checkPieces(t, "43", "a", "/* b */")
	checkPieces(t, "73", "/", "/**/")
	checkPieces(t, "37", "/**/", "/")
}

func TestCutNotesWithoutTheirEnd(t *testing.T) {
	checkPieces(t, "7", "/")
	checkPieces(t, "77", "/", "/")
	checkPieces(t, "77", "/", "*")
	checkPieces(t, "777", "/", "*", "/")
	checkPieces(t, "7777", "/", "*", "/", "*")
	checkPieces(t, "7714", "/", "*", " ", "a")
	checkPieces(t, "7777", "/", "*", "*", "*")
	checkPieces(t, "474", "a", "/", "b")
	checkPieces(t, "77", "*", "/")
	checkPieces(t, "37714", "/* a */", "/", "*", " ", "b")
	checkPieces(t, "7753", "/", "*", `"a"`, "#")
	checkPieces(t, "74717", "/", "a", "*", " ", "/")
}

func TestCutWords(t *testing.T) {
	for _, s := range []string{"a", "null", "-1.5e+3", "0x_f", "+", "-", ".", "_", "...", "a.b-c_d+e", "azAZ09_-+.", "1e-7", "--"} {
		checkPieces(t, "4", s)
		checkPieces(t, "64146", "[", s, " ", s, "]")
	}
	checkPieces(t, "477", "a", "\xc3", "\xa9")
	checkPieces(t, "474", "a", "*", "b")
	checkPieces(t, "47474", "a", "@", "b", "$", "c")
}

func TestCutTexts(t *testing.T) {
	for _, s := range []string{`""`, `"a"`, `"\""`, `"\\"`, `"\\\""`, `"\q"`, `"#"`, `"/*"`, `"{ }"`, "\"\t\r\x00\"", "\"\\\r\"", "\"\xff\"", "\"\\\xff\"", `"é€"`, `"\é"`, `"\u{41}"`, `"'"`} {
		checkPieces(t, "5", s)
		checkPieces(t, "55", s, s)
		checkPieces(t, "454", "a", s, "a")
		checkPieces(t, "57", s, `"`)
		checkPieces(t, "5727", s, `"`, "\n", `"`)
	}
	checkPieces(t, "54", `"a\"b"`, "c")
	checkPieces(t, "547", `"a\\"`, "b", `"`)
}

func TestCutTextsWithoutTheirEnd(t *testing.T) {
	checkPieces(t, "7", `"`)
	checkPieces(t, "74", `"`, "a")
	checkPieces(t, "77", `"`, `\`)
	checkPieces(t, "777", `"`, `\`, `"`)
	checkPieces(t, "7477", `"`, "a", `\`, `"`)
	checkPieces(t, "777", `"`, `\`, `\`)
	checkPieces(t, "74247", `"`, "a", "\n", "b", `"`)
	checkPieces(t, "7727", `"`, `\`, "\n", `"`)
	checkPieces(t, "77725", `"`, `\`, `"`, "\n", `"a"`)
	checkPieces(t, "7725", `"`, `\`, "\n", `"a"`)
	checkPieces(t, "77477", `"`, `\`, "a", `\`, `"`)
	checkPieces(t, "73", `"`, "# a")
	checkPieces(t, "734", `"`, "/* a\n \" */", "b")
	checkPieces(t, "7735", `"`, `\`, "/* \\\"\n */", `"b"`)
	checkPieces(t, "75", `\`, `"a"`)
	checkPieces(t, "757", `\`, `"\"a"`, `"`)
}

func TestCutMarks(t *testing.T) {
	checkPieces(t, "6666666", "{", "}", "[", "]", ":", "=", ",")
	checkPieces(t, "6666", ":", ":", "=", "=")
	checkPieces(t, "77777777", "(", ")", "<", ">", ";", "|", "!", "?")
}

func TestCutEachByte(t *testing.T) {
	kinds := map[string]string{
		"1": " \t\r", "2": "\n", "3": "#", "6": "{}[]:=,",
		"4": "abcdefghijklmnopqrstuvwxyzABCDEFGHIJKLMNOPQRSTUVWXYZ0123456789_-+.",
	}
	for c := range 256 {
		s, want := string([]byte{byte(c)}), "7"
		for kind, bytes := range kinds {
			if strings.IndexByte(bytes, byte(c)) >= 0 {
				want = kind
			}
		}
		checkPieces(t, want, s)
		checkPieces(t, "6"+want, ",", s)
	}
}

func TestCutEachTwoBytes(t *testing.T) {
	for a := range 256 {
		for b := range 256 {
			s := string([]byte{byte(a), byte(b)})
			checkCut(t, s)
			checkCut(t, `"`+s+`"`)
			checkCut(t, `"\`+s+`"`)
			checkCut(t, "/*"+s+"*/")
		}
	}
}

func TestCutEachShortText(t *testing.T) {
	for _, c := range []struct {
		signs  []string
		length int
	}{
		{[]string{"a", " ", "\n", "#", "/", "*", `"`, `\`, ":", "\xc3"}, 5},
		{[]string{`"`, `\`, "\n", "a"}, 8},
		{[]string{"/", "*", "\n", `"`, "#"}, 7},
		{[]string{"/*", "*/", `"`, `\`, "\n"}, 6},
	} {
		for _, s := range eachText(c.signs, c.length) {
			checkCut(t, s)
		}
	}
}

func TestCutMixedTexts(t *testing.T) {
	for _, s := range mixed(pieces(), 50000) {
		checkCut(t, s)
	}
}

func TestCutTextsUpToTheBound(t *testing.T) {
	for kind, s := range map[string]string{"1": " ", "3": "#", "4": "a"} {
		checkPieces(t, kind, strings.Repeat(s, 19999))
		checkPieces(t, kind, strings.Repeat(s, 20000))
	}
	checkPieces(t, "5", `"`+strings.Repeat("a", 19998)+`"`)
	checkPieces(t, "5", `"`+strings.Repeat(`\"`, 9999)+`"`)
	checkPieces(t, "3", "/*"+strings.Repeat("/", 19996)+"*/")
	checkPieces(t, "74", `"`, strings.Repeat("a", 19999))
	checkPieces(t, "774", "/", "*", strings.Repeat("a", 19998))
}

func TestCutOneTokenAByteUpToTheBound(t *testing.T) {
	for s, kinds := range map[string]string{"\n": "2", ",": "6", "\xff": "7", `"\`: "77", "\"\n": "72", "/* ,": "7716", `/*\"`: "7777"} {
		pieces := strings.Split(strings.Repeat(s, 20000/len(s)), "")
		checkPieces(t, strings.Repeat(kinds, 20000/len(s)), pieces...)
	}
}

func TestCutRefuses(t *testing.T) {
	for _, s := range []string{" ", "\n", "#", "a", `"`, ",", "\xff", "€", `"a" `} {
		for _, size := range []int{20001, 20002, 40000, 1000000} {
			if l, e := tok.Cut(strings.Repeat(s, size/len(s)+1)[:size]); len(l) > 0 || e != api.ErrLarge {
				t.Errorf("Cut of %d bytes of %q is %d tokens, %d", size, s, len(l), e)
			}
		}
	}
}

func TestCutAnswersNewMemory(t *testing.T) {
	s := `{a: "b"} # c`
	first, _ := tok.Cut(s)
	want := slices.Clone(first)
	clear(first[:cap(first)])
	if l, e := tok.Cut(s); !slices.Equal(l, want) || e != api.OK {
		t.Errorf("cut a second time it is %v, %d, not %v", l, e, want)
	}
}

func TestWhatIsToldIsOneToken(t *testing.T) {
	for _, s := range mixed(pieces(), 5000) {
		if q, e := esc.Quote(s); e == api.OK {
			checkPieces(t, "6564", ":", q, ",", "a")
		}
		if esc.Bare(s) {
			checkPieces(t, "4", s)
		}
	}
	for _, n := range []int64{0, 7, -7, math.MaxInt64, math.MinInt64} {
		checkPieces(t, "4", num.Text(n))
		for _, base := range []int{2, 8, 10, 16} {
			told, _ := num.Base(n, base)
			checkPieces(t, "4", told)
		}
	}
	for _, f := range []float64{0, 1, -0.1, 1e300, -1e-300, math.Inf(1), math.Inf(-1), math.NaN()} {
		checkPieces(t, "4", float.Text(math.Float64bits(f)))
	}
}

// P71: kinds that are solid.

func TestSolid(t *testing.T) {
	for _, c := range []struct {
		kind int
		want bool
	}{
		{api.KBlank, false}, {api.KLine, false}, {api.KNote, false}, {api.KWord, true}, {api.KText, true}, {api.KMark, true}, {api.KBad, true},
		{0, false}, {-1, false}, {8, false}, {-4, false}, {-7, false}, {math.MinInt, false}, {math.MaxInt, false},
		{4 + 1<<8, false}, {5 + 1<<16, false}, {6 + 1<<32, false}, {math.MinInt + 4, false},
	} {
		if tok.Solid(c.kind) != c.want {
			t.Errorf("Solid(%d) is not %v", c.kind, c.want)
		}
	}
	for kind := -1000; kind <= 1000; kind++ {
		if tok.Solid(kind) != strings.Contains(" 4 5 6 7 ", fmt.Sprintf(" %d ", kind)) {
			t.Errorf("Solid(%d) is %v", kind, tok.Solid(kind))
		}
	}
}
