package esc_test

import (
	"fmt"
	"strings"
	"testing"

	"typecase/api"
	"typecase/esc"
)

// P60: texts are told between quotes.

// checkQuote against the model.
func checkQuote(t *testing.T, s string) {
	t.Helper()
	want, wantErr := modelQuote(s)
	if q, e := esc.Quote(s); q != want || e != wantErr {
		t.Errorf("Quote(%q) is %q, %d, not %q, %d", s, q, e, want, wantErr)
	}
}

func TestQuoteWhatTheDocumentNames(t *testing.T) {
	for s, want := range map[string]string{
		"": `""`, "a": `"a"`, `"`: `"\""`, `\`: `"\\"`, "\n": `"\n"`, "\t": `"\t"`, "\r": `"\r"`, "/": `"/"`, "'": `"'"`, " ": `" "`,
		"\x00": `"\u{0}"`, "\x01": `"\u{1}"`, "\x08": `"\u{8}"`, "\x0b": `"\u{b}"`, "\x0c": `"\u{c}"`, "\x0f": `"\u{f}"`, "\x10": `"\u{10}"`, "\x1b": `"\u{1b}"`, "\x1f": `"\u{1f}"`,
		"~": `"~"`, "\x7f": `"\u{7f}"`, "\u0080": "\"\u0080\"", "é": `"é"`, "€": `"€"`, "\ufffd": "\"\ufffd\"", "\u2028": "\"\u2028\"", "\ufeff": "\"\ufeff\"", "\U0001f600": "\"\U0001f600\"",
		"\\n": `"\\n"`, `\u{41}`: `"\\u{41}"`, `""`: `"\"\""`, "a\r\nb": `"a\r\nb"`, "\x001": `"\u{0}1"`,
	} {
		if q, e := esc.Quote(s); q != want || e != api.OK {
			t.Errorf("Quote(%q) is %q, %d, not %q", s, q, e, want)
		}
	}
}

func TestQuoteRefuses(t *testing.T) {
	for _, bad := range []string{"\x80", "\xbf", "\xc0\x80", "\xc1\xbf", "\xc2", "\xe0\x80\x80", "\xe2\x82", "\xed\xa0\x80", "\xed\xbf\xbf", "\xf0\x80\x80\x80", "\xf4\x90\x80\x80", "\xf8", "\xff"} {
		for _, s := range []string{bad, "a" + bad, bad + "a", "\ufffd" + bad, "\"\n" + bad + "\\", bad + bad, strings.Repeat("a", 5000) + bad} {
			if q, e := esc.Quote(s); q != "" || e != api.ErrText {
				t.Errorf("Quote(%q) is %q, %d", s, q, e)
			}
		}
	}
}

func TestQuoteEachScalar(t *testing.T) {
	for r := rune(0); r <= 0x10ffff; r++ {
		if 0xd800 <= r && r <= 0xdfff {
			continue
		}
		s := string(r)
		want := `"` + s + `"`
		if r < 128 {
			want = `"` + modelScalar(r) + `"`
		}
		if q, e := esc.Quote(s); q != want || e != api.OK {
			t.Fatalf("Quote(%q) is %q, %d, not %q", s, q, e, want)
		}
	}
}

func TestQuoteEachTwoBytes(t *testing.T) {
	for a := range 256 {
		for b := range 256 {
			checkQuote(t, string([]byte{byte(a), byte(b)}))
		}
	}
}

func TestQuoteMixedTexts(t *testing.T) {
	for _, s := range mixed(pieces(), 20000) {
		checkQuote(t, s)
	}
}

func TestWhatIsQuotedIsReadAsItWas(t *testing.T) {
	for _, s := range append(mixed(pieces(), 20000), strings.Repeat("a\"\\\n€", 100000)) {
		q, e := esc.Quote(s)
		if e != api.OK {
			continue
		}
		for _, behind := range []string{"", `"`, "\n", "\xff", `\`, "more"} {
			if back, n, e := esc.Unquote(q + behind); back != s || n != len(q) || e != api.OK {
				t.Fatalf("Unquote(%.100q) is %.100q, %d, %d", q+behind, back, n, e)
			}
		}
	}
}

// P61: texts between quotes are read.

// checkUnquote against the model.
func checkUnquote(t *testing.T, q string) {
	t.Helper()
	want, wantSize, wantErr := modelUnquote(q)
	if s, n, e := esc.Unquote(q); s != want || n != wantSize || e != wantErr {
		t.Errorf("Unquote(%q) is %q, %d, %d, not %q, %d, %d", q, s, n, e, want, wantSize, wantErr)
	}
}

func TestUnquoteWhatTheDocumentNames(t *testing.T) {
	for q, want := range map[string]string{
		`""`: "", `"a"`: "a", `"\""`: `"`, `"\\"`: `\`, `"\/"`: "/", `"/"`: "/", `"\n"`: "\n", `"\t"`: "\t", `"\r"`: "\r",
		`"\u{0}"`: "\x00", `"\u{000000}"`: "\x00", `"\u{a}"`: "\n", `"\u{22}"`: `"`, `"\u{5c}n"`: `\n`, `"\u{41}"`: "A", `"\u{00041}"`: "A", `"\u{000041}"`: "A",
		`"\u{e9}"`: "é", `"\u{E9}"`: "é", `"\u{20aC}"`: "€", `"\u{d7ff}"`: "\ud7ff", `"\u{E000}"`: "\ue000", `"\u{fffd}"`: "\ufffd", `"\u{10FFFF}"`: "\U0010ffff",
		"\"\t\"": "\t", "\"\r\"": "\r", "\"\x00\x01\x1f\x7f\"": "\x00\x01\x1f\x7f", `"\\n"`: `\n`, `"\\\""`: `\"`, `"\\u{41}"`: `\u{41}`, `"é€` + "\U0001f600\ufffd" + `"`: "é€\U0001f600\ufffd",
		`"'u{}"`: "'u{}", `"\u{41}}"`: "A}", `"\u{41}1"`: "A1",
	} {
		for _, behind := range []string{"", "a", `"`, `""`, "\n", "\xff", `\`, `\q`} {
			if s, n, e := esc.Unquote(q + behind); s != want || n != len(q) || e != api.OK {
				t.Errorf("Unquote(%q) is %q, %d, %d, not %q, %d", q+behind, s, n, e, want, len(q))
			}
		}
	}
}

func TestUnquoteRefuses(t *testing.T) {
	for want, list := range map[api.Errno][]string{
		api.ErrForm: {
			"", "a", " \"\"", "\xff", "\xff\"\"", `\"a"`, `'a'`, "\n\"\"",
			`"`, `"a`, `"a\"`, `"\`, `"\\`, `"\n`, "\"\n\"", "\"a\nb\"", "\"\r\n\"", "\"\\\n\"", `"\u`, `"\u{`, `"\u{4`, `"\u{41`, `"\u{000041`,
			`"\q"`, `"\a"`, `"\b"`, `"\f"`, `"\v"`, `"\0"`, `"\N"`, `"\T"`, `"\R"`, `"\'"`, `"\ "`, `"\{41}"`, `"\x41"`, `"\u0041"`, `"\u41"`, `"\U{41}"`, `"\u[41]"`, `"\u(41)"`,
			`"\u{}"`, `"\u{g}"`, `"\u{4g}"`, `"\u{ 41}"`, `"\u{41 }"`, `"\u{-1}"`, `"\u{+1}"`, `"\u{4_1}"`, `"\u{0x41}"`, `"\u{41"`, `"\u{41]"`, `"\u{0000041}"`, `"\u{0000000}"`, `"\u{1000000}"`,
			`"\u{ffffffff}"`, `"\u{100000041}"`, `"\u{110000"`, `"\u{d800"`, `"\u{d800g}"`, "\"\\\u00e9\"", "\"\\u{\uff11}\"",
		},
		api.ErrText: {
			`"\u{d800}"`, `"\u{D800}"`, `"\u{dfff}"`, `"\u{00dfff}"`, `"\u{110000}"`, `"\u{ffffff}"`, `"\u{FFFFFF}"`, `"\u{d83d}\u{de00}"`,
			"\"\x80\"", "\"\xc0\x80\"", "\"\xc3\"", "\"\xc3", "\"\xe2\x82", "\"\xe2\x82\"", "\"\xed\xa0\x80\"", "\"\xf4\x90\x80\x80\"", "\"\xff\"", "\"a\xff", "\"\ufffd\xff\"",
		},
	} {
		for _, q := range list {
			if s, n, e := esc.Unquote(q); s != "" || n != 0 || e != want {
				t.Errorf("Unquote(%q) is %q, %d, %d, not %d", q, s, n, e, want)
			}
		}
	}
}

func TestUnquoteTellsWhatIsWrongFirst(t *testing.T) {
	for _, form := range []string{"\n", `\q`, `\u{}`, `\u{0000041}`, "\\\xff", "\\\n", "\\u{4\xff}"} {
		for _, text := range []string{"\xff", "\xc3", `\u{d800}`, `\u{110000}`} {
			for _, between := range []string{"", "a", "é", `\n`} {
				for _, behind := range []string{"", `"`} {
					if s, n, e := esc.Unquote(`"` + form + between + text + behind); s != "" || n != 0 || e != api.ErrForm {
						t.Errorf("with %q ahead of %q: %q, %d, %d", form, text, s, n, e)
					}
					if s, n, e := esc.Unquote(`"` + text + between + form + behind); s != "" || n != 0 || e != api.ErrText {
						t.Errorf("with %q ahead of %q: %q, %d, %d", text, form, s, n, e)
					}
				}
			}
		}
	}
}

func TestUnquoteEachShortText(t *testing.T) {
	signs := []string{"a", `"`, `\`, "/", "n", "u", "{", "}", "0", "\n", "\xc3", "\xa9"}
	for _, s := range eachText(signs, 5) {
		checkUnquote(t, s)
		checkUnquote(t, `"`+s)
		checkUnquote(t, `"`+s+`"`)
	}
}

func TestUnquoteEachShortNumber(t *testing.T) {
	signs := []string{"0", "1", "d", "F", "g", "}", `"`, "8"}
	for _, s := range eachText(signs, 5) {
		checkUnquote(t, `"\u{`+s)
		checkUnquote(t, `"\u{`+s+`}"`)
		checkUnquote(t, `"\u{10`+s+`}"`)
		checkUnquote(t, `"\u{11`+s+`}"`)
	}
}

func TestUnquoteEachNumber(t *testing.T) {
	for n := range 0x111000 {
		want, wantSize, wantErr := modelUnquote(fmt.Sprintf(`"\u{%x}"`, n))
		for _, form := range []string{`"\u{%x}"`, `"\u{%X}"`} {
			q := fmt.Sprintf(form, n)
			if s, size, e := esc.Unquote(q); s != want || size != wantSize || e != wantErr {
				t.Fatalf("Unquote(%q) is %q, %d, %d, not %q, %d, %d", q, s, size, e, want, wantSize, wantErr)
			}
		}
	}
}

func TestUnquoteNumbersWithEachCountOfDigits(t *testing.T) {
	for size := range 20 {
		for _, n := range []int{0, 0x41, 0xd7ff, 0xd800, 0xdfff, 0xe000, 0x10ffff, 0x110000, 0xffffff} {
			checkUnquote(t, fmt.Sprintf(`"\u{%0*x}"`, size, n))
			checkUnquote(t, fmt.Sprintf(`"\u{%X%0*d}"`, n, size, 0))
		}
	}
}

func TestUnquoteEachTwoBytes(t *testing.T) {
	for a := range 256 {
		for b := range 256 {
			s := string([]byte{byte(a), byte(b)})
			checkUnquote(t, s)
			checkUnquote(t, `"`+s+`"`)
			checkUnquote(t, `"\`+s+`"`)
			checkUnquote(t, `"\u{`+s+`}"`)
			checkUnquote(t, `"`+s)
		}
	}
}

func TestUnquoteWithEachByteAtEachPlace(t *testing.T) {
	for _, q := range []string{`"a\"\\\/\n\t\r"`, `"\u{0}\u{1aF}\u{10ffff}"`, "\"é€\U0001f600\""} {
		for i := range len(q) {
			for c := range 256 {
				checkUnquote(t, q[:i]+string([]byte{byte(c)})+q[i:])
				checkUnquote(t, q[:i]+string([]byte{byte(c)})+q[i+1:])
			}
			checkUnquote(t, q[:i]+q[i+1:])
			checkUnquote(t, q[:i])
			checkUnquote(t, q[i:])
		}
	}
}

func TestUnquoteMixedTexts(t *testing.T) {
	for _, s := range mixed(pieces(), 50000) {
		checkUnquote(t, s)
		checkUnquote(t, `"`+s)
		checkUnquote(t, `"`+s+`"`)
	}
}

func TestUnquoteLongTexts(t *testing.T) {
	long := strings.Repeat(`a\u{20ac}é`, 100000)
	want := strings.Repeat("a€é", 100000)
	if s, n, e := esc.Unquote(`"` + long + `"`); s != want || n != len(long)+2 || e != api.OK {
		t.Error(len(s), n, e)
	}
	if s, n, e := esc.Unquote(`"` + long); s != "" || n != 0 || e != api.ErrForm {
		t.Error(len(s), n, e)
	}
	if s, n, e := esc.Unquote(`"` + long + "\xff"); s != "" || n != 0 || e != api.ErrText {
		t.Error(len(s), n, e)
	}
	if s, n, e := esc.Unquote(`"\u{` + strings.Repeat("0", 1000000) + `}"`); s != "" || n != 0 || e != api.ErrForm {
		t.Error(len(s), n, e)
	}
}

// P62: keys.

// checkKey and whether it is bare, against the model.
func checkKey(t *testing.T, s string) {
	t.Helper()
	if want := modelBare(s); esc.Bare(s) != want {
		t.Errorf("Bare(%q) is not %v", s, want)
	}
	want, wantErr := modelKey(s)
	if k, e := esc.Key(s); k != want || e != wantErr {
		t.Errorf("Key(%q) is %q, %d, not %q, %d", s, k, e, want, wantErr)
	}
}

func TestKeyWhatTheDocumentNames(t *testing.T) {
	for s, want := range map[string]string{
		"a": "a", "Z": "Z", "_": "_", "a1": "a1", "a-b": "a-b", "a-": "a-", "_-": "_-", "__": "__", "_0": "_0",
		"nul": "nul", "nulls": "nulls", "Null": "Null", "NULL": "NULL", "_null": "_null", "True": "True", "NaN": "NaN", "Inf": "Inf", "infinity": "infinity", "falsee": "falsee",
		"null": `"null"`, "true": `"true"`, "false": `"false"`, "nan": `"nan"`, "inf": `"inf"`,
		"": `""`, "1": `"1"`, "1a": `"1a"`, "-": `"-"`, "-a": `"-a"`, "-inf": `"-inf"`, "a b": `"a b"`, "a.b": `"a.b"`, "a+": `"a+"`, " a": `" a"`, "a ": `"a "`, "a\n": `"a\n"`, "a\"": `"a\""`, "é": `"é"`, "aé": `"aé"`, "a\x00": `"a\u{0}"`,
		strings.Repeat("k", 100): strings.Repeat("k", 100), strings.Repeat("k", 101): `"` + strings.Repeat("k", 101) + `"`,
	} {
		if k, e := esc.Key(s); k != want || e != api.OK {
			t.Errorf("Key(%q) is %q, %d, not %q", s, k, e, want)
		}
		if esc.Bare(s) != (s == want) {
			t.Errorf("Bare(%q) is not %v", s, s == want)
		}
	}
	for _, s := range []string{"\xff", "a\xff", "\xc3", strings.Repeat("k", 100) + "\xff"} {
		if k, e := esc.Key(s); k != "" || e != api.ErrText {
			t.Errorf("Key(%q) is %q, %d", s, k, e)
		}
		if esc.Bare(s) {
			t.Errorf("Bare(%q)", s)
		}
	}
}

func TestKeyEachTwoBytes(t *testing.T) {
	for a := range 256 {
		checkKey(t, string([]byte{byte(a)}))
		for b := range 256 {
			checkKey(t, string([]byte{byte(a), byte(b)}))
			checkKey(t, "k"+string([]byte{byte(a), byte(b)}))
		}
	}
}

func TestKeyBesideTheWords(t *testing.T) {
	for _, word := range []string{"null", "true", "false", "nan", "inf"} {
		for i := range len(word) + 1 {
			checkKey(t, word[:i])
			checkKey(t, word[i:])
			checkKey(t, word[:i]+strings.ToUpper(word[i:]))
			for c := range 256 {
				checkKey(t, word[:i]+string([]byte{byte(c)})+word[i:])
			}
		}
	}
}

func TestKeyOfEachLength(t *testing.T) {
	for size := range 300 {
		for _, c := range []string{"k", "_", "-", "9", "é"} {
			s := strings.Repeat(c, size)
			checkKey(t, s)
			checkKey(t, "k"+s)
			checkKey(t, "k"+s+" ")
		}
	}
}

func TestKeyMixedTexts(t *testing.T) {
	for _, s := range mixed(pieces(), 20000) {
		checkKey(t, s)
	}
	for _, s := range mixed([]string{"a", "Z", "_", "-", "0", "9", "inf", "nan", "null"}, 5000) {
		checkKey(t, s)
	}
}
