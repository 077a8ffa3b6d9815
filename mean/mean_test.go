package mean_test

import (
	"fmt"
	"math"
	"slices"
	"strings"
	"testing"

	"typecase/api"
	"typecase/mean"
)

// P110: what a word means.

// checkWord against the reference.
func checkWord(t *testing.T, s string) {
	t.Helper()
	want, wantErr := modelWord(s)
	if v, e := mean.Word(s); !same(v, want) || e != wantErr {
		t.Errorf("Word(%.200q) is %v and %d, not %v and %d", s, v, e, want, wantErr)
	}
}

func TestWordsThatMean(t *testing.T) {
	for s, want := range map[string]api.Value{
		"null": null(), "true": boolean(1), "false": boolean(0),
		"0": whole(0), "-0": whole(0), "1": whole(1), "-1": whole(-1), "1_000": whole(1000), "0xf_f": whole(255), "-0x10": whole(-16), "0o17": whole(15), "0b101": whole(5), "0b0": whole(0),
		"9223372036854775807": whole(math.MaxInt64), "-9223372036854775808": whole(math.MinInt64), "0x7fffffffffffffff": whole(math.MaxInt64),
		"0.0": number(0), "-0.0": fraction(1 << 63), "0e0": number(0), "-0e5": fraction(1 << 63), "1.0": number(1), "1e0": number(1), "1e5": number(100000), "1.5e+3": number(1500), "25e-1": number(2.5), "-0.1": number(-0.1), "1e-999": number(0), "5e-324": fraction(1),
		"nan": fraction(0x7ff8000000000001), "inf": fraction(2047 << 52), "-inf": fraction(1<<63 | 2047<<52),
		// Digits that are a numeral and a fraction's beginning: these are whole numbers; as soon as there is a point they are none.
		"100": whole(100), "100.0": number(100), "9223372036854775808.0": number(1 << 63), "9223372036854775808e0": number(1 << 63), "0xe1": whole(225), "0x1e5": whole(485),
	} {
		if v, e := mean.Word(s); !same(v, want) || e != api.OK {
			t.Errorf("Word(%q) is %v and %d, not %v", s, v, e, want)
		}
		checkWord(t, s)
	}
}

func TestWordsThatMeanNothing(t *testing.T) {
	for s, want := range map[string]api.Errno{
		"": api.ErrForm, "a": api.ErrForm, "Null": api.ErrForm, "NULL": api.ErrForm, "nul": api.ErrForm, "nulll": api.ErrForm, "null ": api.ErrForm, " null": api.ErrForm, "-null": api.ErrForm, "True": api.ErrForm, "-true": api.ErrForm, "+true": api.ErrForm, "falsE": api.ErrForm,
		"NaN": api.ErrForm, "-nan": api.ErrForm, "Inf": api.ErrForm, "+inf": api.ErrForm, "--inf": api.ErrForm, "infinity": api.ErrForm,
		"-": api.ErrForm, "+1": api.ErrForm, "--1": api.ErrForm, "01": api.ErrForm, "-01": api.ErrForm, "1_": api.ErrForm, "_1": api.ErrForm, "1__0": api.ErrForm, "0_1": api.ErrForm, "0x": api.ErrForm, "0x_1": api.ErrForm, "0X1": api.ErrForm, "0b2": api.ErrForm, "0o8": api.ErrForm, "1a": api.ErrForm,
		"1.": api.ErrForm, ".1": api.ErrForm, "1.e1": api.ErrForm, "01.5": api.ErrForm, "1e": api.ErrForm, "1e+": api.ErrForm, "1E5": api.ErrForm, "1_0.5": api.ErrForm, "1.0_0": api.ErrForm, "1.5.5": api.ErrForm, "+1.5": api.ErrForm, "0x1.8": api.ErrForm, "1e5.5": api.ErrForm,
		"\"a\"": api.ErrForm, "\xff": api.ErrForm, "1\x00": api.ErrForm, "é": api.ErrForm, "\n": api.ErrForm, "[]": api.ErrForm,
		"9223372036854775808": api.ErrRange, "-9223372036854775809": api.ErrRange, "0x8000000000000000": api.ErrRange, "0xffff_ffff_ffff_ffff_f": api.ErrRange, "99999999999999999999999999": api.ErrRange,
		"1e309": api.ErrRange, "-1e309": api.ErrRange, "1e999": api.ErrRange, "1.8e308": api.ErrRange, "99999e99999999999999999999": api.ErrRange,
	} {
		if v, e := mean.Word(s); !same(v, null()) || e != want {
			t.Errorf("Word(%q) is %v and %d, not %d", s, v, e, want)
		}
		checkWord(t, s)
	}
}

// What is too long for a number is so whether it looks like one or not.
func TestWordsUpToTheBound(t *testing.T) {
	for _, c := range []struct {
		s    string
		want api.Errno
	}{
		{strings.Repeat("a", 80), api.ErrForm}, {strings.Repeat("a", 81), api.ErrLarge}, {strings.Repeat("a", 100000), api.ErrLarge},
		{strings.Repeat("1", 80), api.ErrRange}, {strings.Repeat("1", 81), api.ErrLarge},
		{"0." + strings.Repeat("1", 78), api.OK}, {"0." + strings.Repeat("1", 79), api.ErrLarge},
		{"0x" + strings.Repeat("0", 78), api.OK}, {"0x" + strings.Repeat("0", 79), api.ErrLarge},
		{"null" + strings.Repeat(" ", 76), api.ErrForm}, {"null" + strings.Repeat(" ", 77), api.ErrLarge},
	} {
		if v, e := mean.Word(c.s); e != c.want || e != api.OK && !same(v, null()) {
			t.Errorf("Word of %d bytes %.10q is %v and %d, not %d", len(c.s), c.s, v, e, c.want)
		}
		checkWord(t, c.s)
	}
}

// eachText of these signs, of at most so many.
func eachText(signs []string, length int, use func(string)) {
	var longer func(s string, left int)
	longer = func(s string, left int) {
		use(s)
		if left > 0 {
			for _, sign := range signs {
				longer(s+sign, left-1)
			}
		}
	}
	longer("", length)
}

func TestEachShortWord(t *testing.T) {
	eachText([]string{"0", "1", "9", "-", "+", ".", "e", "_", "x", "b"}, 5, func(s string) { checkWord(t, s) })
	eachText([]string{"null", "true", "false", "nan", "inf", "-", "1", "e", ".", "9223372036854775807", "_"}, 4, func(s string) { checkWord(t, s) })
}

// P111: what a document means.

// checkMean against the reference.
func checkMean(t *testing.T, s string) {
	t.Helper()
	want, wantAt, wantErr := modelMean(s)
	if v, at, e := mean.Mean(s); !same(v, want) || at != wantAt || e != wantErr {
		t.Errorf("Mean(%.300q) is %.300s, %d, %d, not %.300s, %d, %d", s, fmt.Sprint(v), at, e, fmt.Sprint(want), wantAt, wantErr)
	}
}

// checkMeans: does s mean this?
func checkMeans(t *testing.T, s string, want api.Value) {
	t.Helper()
	if v, at, e := mean.Mean(s); !same(v, want) || at != 0 || e != api.OK {
		t.Errorf("Mean(%.300q) is %.300s, %d, %d, not %.300s", s, fmt.Sprint(v), at, e, fmt.Sprint(want))
	}
	checkMean(t, s)
}

// checkFault: is s refused at this place?
func checkFault(t *testing.T, s string, wantAt int, want api.Errno) {
	t.Helper()
	if v, at, e := mean.Mean(s); !same(v, null()) || at != wantAt || e != want {
		t.Errorf("Mean(%.300q) is %.300s, %d, %d, not at %d, %d", s, fmt.Sprint(v), at, e, wantAt, want)
	}
	checkMean(t, s)
}

func TestLeaves(t *testing.T) {
	for s, want := range map[string]api.Value{
		"null": null(), " true ": boolean(1), "# x\nfalse": boolean(0), "0xff/* */": whole(255), "-7": whole(-7), "1.5": number(1.5), "nan": fraction(0x7ff8000000000001), "-inf": number(math.Inf(-1)),
		`""`: text(""), `"a"`: text("a"), `"null"`: text("null"), `"1"`: text("1"), `"a\n\t\r\"\\\/b"`: text("a\n\t\r\"\\/b"), `"\u{20ac}\u{0}é"`: text("€\x00é"), "\"\t\"": text("\t"), `"# x"`: text("# x"),
	} {
		checkMeans(t, s, want)
		checkMeans(t, "["+s+"\n]", list(want))
		checkMeans(t, "{a:"+s+"\n}", table(entry("a", want)))
	}
}

func TestLists(t *testing.T) {
	checkMeans(t, "[]", list())
	checkMeans(t, "[ /* 1 */ ]", list())
	checkMeans(t, "[3,1,2]", list(whole(3), whole(1), whole(2)))
	checkMeans(t, "[1,1,]", list(whole(1), whole(1)))
	checkMeans(t, "[1,[],{},\"\",null,]", list(whole(1), list(), table(), text(""), null()))
	checkMeans(t, "[[2,1],[1,[0]]]", list(list(whole(2), whole(1)), list(whole(1), list(whole(0)))))
}

func TestTables(t *testing.T) {
	checkMeans(t, "{}", table())
	checkMeans(t, "{a:1}", table(entry("a", whole(1))))
	checkMeans(t, "{c:1,a=2,b:3,}", table(entry("a", whole(2)), entry("b", whole(3)), entry("c", whole(1))))
	checkMeans(t, "{b = 1, \"a b\": null, a: {}}", table(entry("a", table()), entry("a b", null()), entry("b", whole(1))))
	checkMeans(t, `{"null":null,"1":2,"":3,"a.b":4}`, table(entry("", whole(3)), entry("1", whole(2)), entry("a.b", whole(4)), entry("null", null())))
	// As bytes: great letters stand below small ones, `_` between them, and é above all of them.
	checkMeans(t, `{"é":1,z:2,_:3,A:4,a:5,aa:6,"a\u{0}":7,a-b:8}`, table(entry("A", whole(4)), entry("_", whole(3)), entry("a", whole(5)), entry("a\x00", whole(7)), entry("a-b", whole(8)), entry("aa", whole(6)), entry("z", whole(2)), entry("é", whole(1))))
	// A key may stand again in another table.
	checkMeans(t, "{a:{a:{a:1}},b:{a:2}}", table(entry("a", table(entry("a", table(entry("a", whole(1)))))), entry("b", table(entry("a", whole(2))))))
	checkMeans(t, "[{a:1},{a:2}]", list(table(entry("a", whole(1))), table(entry("a", whole(2)))))
	checkMeans(t, "{b:{a:2},a:1}", table(entry("a", whole(1)), entry("b", table(entry("a", whole(2))))))
	checkMeans(t, "{Null:1,nulls:2,Inf:3,tru:4}", table(entry("Inf", whole(3)), entry("Null", whole(1)), entry("nulls", whole(2)), entry("tru", whole(4))))
}

func TestTextsThatAreNoDocument(t *testing.T) {
	deep := strings.Repeat("[", 20)
	for s, at := range map[string]int{"": 0, " ": 1, "[1": 2, "{a:x": 4, "{a:1,a:2": 8, "[x,!": 3, "x y": 2, "{1:1,": 5, "{a}": 2, "{1}": 2, `["\q",`: 6, `"`: 0, "[x,]]": 4, "{a::x}": 3} {
		checkFault(t, s, at, api.ErrForm)
	}
	for s, at := range map[string]int{deep + "1": 20, deep + " x": 21, strings.Repeat("{a:", 20) + "x": 60, "[x," + deep[:19] + "1": 22, "{a:1,a:" + deep[:19] + "1": 26} {
		checkFault(t, s, at, api.ErrDeep)
	}
	checkFault(t, "x"+strings.Repeat(" ", 20000), 0, api.ErrLarge)
	checkFault(t, " x"+strings.Repeat(" ", 19998), 1, api.ErrForm)
}

// fault: a leaf or a key that is wrong, and its error.
type fault struct {
	s string
	e api.Errno
}

func textFaults() []fault {
	return []fault{{`"\q"`, api.ErrForm}, {`"\u{}"`, api.ErrForm}, {`"\u{1234567}"`, api.ErrForm}, {`"\u0041"`, api.ErrForm}, {`"\é"`, api.ErrForm}, {"\"\xff\"", api.ErrText}, {"\"a\xc3\"", api.ErrText}, {`"\u{d800}"`, api.ErrText}, {`"\u{110000}"`, api.ErrText}, {"\"\xff\\q\"", api.ErrText}, {"\"\\q\xff\"", api.ErrForm}}
}

func leafFaults() []fault {
	return append(textFaults(), fault{"x", api.ErrForm}, fault{"True", api.ErrForm}, fault{"01", api.ErrForm}, fault{"1.", api.ErrForm}, fault{"-", api.ErrForm}, fault{"a.b", api.ErrForm}, fault{"9223372036854775808", api.ErrRange}, fault{"1e999", api.ErrRange}, fault{strings.Repeat("1", 81), api.ErrLarge}, fault{strings.Repeat("x", 81), api.ErrLarge})
}

func keyFaults() []fault {
	return append(textFaults(), fault{"1", api.ErrForm}, fault{"null", api.ErrForm}, fault{"true", api.ErrForm}, fault{"false", api.ErrForm}, fault{"nan", api.ErrForm}, fault{"inf", api.ErrForm}, fault{"-inf", api.ErrForm}, fault{"-a", api.ErrForm}, fault{"a.b", api.ErrForm}, fault{"a+", api.ErrForm}, fault{"1e999", api.ErrForm}, fault{strings.Repeat("a", 101), api.ErrForm})
}

func TestLeavesThatAreWrong(t *testing.T) {
	for _, f := range leafFaults() {
		checkFault(t, f.s, 0, f.e)
		checkFault(t, " \n"+f.s+" ", 2, f.e)
		checkFault(t, "[1, "+f.s+", x]", 4, f.e)
		checkFault(t, "{a: "+f.s+", a: 1}", 4, f.e)
		checkFault(t, "{a: [{}, {b: ["+f.s+"]}]}", 14, f.e)
	}
}

func TestKeysThatAreWrong(t *testing.T) {
	for _, f := range keyFaults() {
		checkFault(t, "{"+f.s+": 1}", 1, f.e)
		checkFault(t, "{ "+f.s+" = x}", 2, f.e)
		checkFault(t, "{a: 1, "+f.s+": x, a: 2}", 7, f.e)
		checkFault(t, "[[], {a: {"+f.s+": 1}}]", 10, f.e)
		// Wrong twice is wrong, and not ErrTwice.
		checkFault(t, "{"+f.s+":1,"+f.s+":1}", 1, f.e)
	}
}

func TestKeysThatStandTwice(t *testing.T) {
	checkFault(t, "{a: 1, a: 2}", 7, api.ErrTwice)
	checkFault(t, "{a: 1, a: 1}", 7, api.ErrTwice)
	checkFault(t, `{"a": 1, a: x}`, 9, api.ErrTwice)
	checkFault(t, `{a: 1, "\u{61}"= 2}`, 7, api.ErrTwice)
	checkFault(t, `{"": 1, b: 2, "": 3}`, 14, api.ErrTwice)
	checkFault(t, `{"1": 1, "\u{31}": 3}`, 9, api.ErrTwice)
	checkFault(t, "{a: 1, b: 2, c: 3, b: 4, a: 5}", 19, api.ErrTwice)
	checkFault(t, "{a: {a: 1, a: 2}}", 11, api.ErrTwice)
	checkFault(t, "{a: {b: 1}, b: 2, a: 3}", 18, api.ErrTwice)
	checkFault(t, "[{a: 1}, {b: 1, b: 2}]", 16, api.ErrTwice)
	// Its own value comes behind it, and so do all faults that stand behind.
	checkFault(t, "{a: 1, a: {1: x}}", 7, api.ErrTwice)
	checkFault(t, "{a: x, a: 2}", 4, api.ErrForm)
	checkFault(t, "{a: {1: 2}, a: 2}", 5, api.ErrForm)
	checkFault(t, "{a: 1, 1: 2, a: 2}", 7, api.ErrForm)
	// The table around does not count, nor does what was within another one.
	checkFault(t, "{a: {a: 1, b: x}, a: 1}", 14, api.ErrForm)
}

func TestEachSmallTable(t *testing.T) {
	var entries []string
	for _, key := range []string{"a", `"a"`, "b", `"\u{62}"`, `""`, "1", `"\q"`} {
		for _, value := range []string{"1", "x", "{}", "[1,x]", "{a:1,b:2}", "{b=1,a:{},b=2}"} {
			entries = append(entries, key+":"+value+",")
		}
	}
	eachText(entries, 3, func(s string) { checkMean(t, "{"+s+"}") })
}

func TestEachShortText(t *testing.T) {
	eachText([]string{"{", "}", "[", "]", ":", ",", "a ", `"a"`, "1 "}, 5, func(s string) { checkMean(t, s) })
	eachText([]string{"{", "}", "a:", ",", "[", "]", "1 "}, 6, func(s string) { checkMean(t, s) })
}

func TestWrittenDocuments(t *testing.T) {
	w := newWriter(1)
	for i := range 6000 {
		pieces, want := w.document(i % 8)
		if s, _ := sourceOf(pieces); len(s) <= 20000 {
			checkMeans(t, s, want)
		}
	}
}

// spoil one piece, if it is a leaf or a key: the error that it then has.
func (w *writer) spoil(p *piece) api.Errno {
	var f fault
	switch {
	case p.kind == leafPiece:
		f = pick(w, leafFaults()...)
	case p.kind == keyPiece && len(p.ahead) > 0 && w.IntN(2) == 0:
		f = fault{w.key(pick(w, p.ahead...)), api.ErrTwice}
	case p.kind == keyPiece:
		f = pick(w, keyFaults()...)
	default:
		return api.OK
	}
	p.s = f.s
	return f.e
}

// Whatever else is wrong behind it: the first fault is told, with its place.
func TestWrittenDocumentsWithFaults(t *testing.T) {
	w := newWriter(2)
	for i := range 6000 {
		pieces, _ := w.document(1 + i%7)
		first, want := -1, api.OK
		for k := range pieces {
			if w.IntN(1+len(pieces)/3) != 0 {
				continue
			}
			if e := w.spoil(&pieces[k]); first < 0 && e != api.OK {
				first, want = k, e
			}
		}
		s, places := sourceOf(pieces)
		if first >= 0 && len(s) <= 20000 {
			checkFault(t, s, places[first], want)
		}
	}
}

// elements: so many times one, with a `,` behind each.
func elements(one string, count int) string { return strings.Repeat(one+",", count) }

// entries with so many keys, by falling ones.
func entries(count int) string {
	var b strings.Builder
	for i := range count {
		fmt.Fprintf(&b, "k%03d:1,", count-i)
	}
	return b.String()
}

// linedUp: a list of lists, with so many nodes in all.
func linedUp(nodes int) string {
	var b strings.Builder
	for nodes--; nodes > 0; {
		n := min(nodes, 199)
		b.WriteString("[" + elements("1", n-1) + "],")
		nodes -= n
	}
	return "[" + b.String() + "]"
}

// Values that are as great as good ones may be, or one more: that is told last, with place 0.
func TestLimits(t *testing.T) {
	for _, c := range []struct {
		s    string
		want api.Errno
	}{
		{"[" + elements("1", 200) + "]", api.OK}, {"[" + elements("1", 201) + "]", api.ErrLarge},
		{"{" + entries(200) + "}", api.OK}, {"{" + entries(201) + "}", api.ErrLarge},
		{linedUp(2000), api.OK}, {linedUp(2001), api.ErrLarge},
		{`"` + strings.Repeat("a", 4000) + `"`, api.OK}, {`"` + strings.Repeat("a", 4001) + `"`, api.ErrLarge},
		{`"` + strings.Repeat(`\n`, 4000) + `"`, api.OK}, {`"` + strings.Repeat("€", 1333) + `"`, api.OK}, {`"` + strings.Repeat("€", 1334) + `"`, api.ErrLarge},
		{"{" + strings.Repeat("k", 100) + ":1}", api.OK}, {`{"` + strings.Repeat("k", 100) + `":1}`, api.OK}, {` {"` + strings.Repeat("k", 101) + `":1}`, api.ErrLarge}, {`{"` + strings.Repeat(`\u{e9}`, 51) + `":1}`, api.ErrLarge},
		{strings.Repeat("[", 19) + "1" + strings.Repeat("]", 19), api.OK}, {strings.Repeat("[", 20) + strings.Repeat("]", 20), api.OK}, {strings.Repeat("{a:", 19) + "{}" + strings.Repeat("}", 19), api.OK},
		{"1" + strings.Repeat(" ", 19999), api.OK}, {"1" + strings.Repeat(" ", 20000), api.ErrLarge},
		{"\n[[], [" + elements("1", 201) + "]]", api.ErrLarge},
	} {
		v, at, e := mean.Mean(c.s)
		if at != 0 || e != c.want || e != api.OK && !same(v, null()) {
			t.Errorf("Mean of %d bytes %.20q is %.100s, %d, %d, not %d", len(c.s), c.s, fmt.Sprint(v), at, e, c.want)
		}
		checkMean(t, c.s)
	}
}

func TestFaultsAheadOfLimits(t *testing.T) {
	many := elements("1", 300)
	checkFault(t, "["+many+"x]", 601, api.ErrForm)
	checkFault(t, "["+many+"1e999]", 601, api.ErrRange)
	checkFault(t, "["+many+"{1:1}]", 602, api.ErrForm)
	checkFault(t, "[["+many+"],{a:1,a:1}]", 609, api.ErrTwice)
	checkFault(t, "{"+entries(300)+"k150:1}", 1+7*300, api.ErrTwice)
	checkFault(t, `{"`+strings.Repeat("k", 101)+`":x}`, 105, api.ErrForm)
	checkFault(t, `{"`+strings.Repeat("k", 101)+`":1,"`+strings.Repeat("k", 101)+`":1}`, 107, api.ErrTwice)
	checkFault(t, linedUp(5000)+"x", len(linedUp(5000)), api.ErrForm)
	checkFault(t, "["+linedUp(5000)+",\"\\q\"]", len(linedUp(5000))+2, api.ErrForm)
}

// As many keys as a document has room for: each is held against all that are ahead of it.
func TestManyKeys(t *testing.T) {
	letters := strings.Split("ABCDEFGHIJKLMNOPQRSTUVWXYZ_abcdefghijklmnopqrstuvwxyz", "")
	slices.Reverse(letters)
	var b strings.Builder
	for _, x := range letters {
		for _, y := range letters {
			b.WriteString(x + y + ":1,")
		}
	}
	s := "{" + b.String()
	checkFault(t, s+"}", 0, api.ErrLarge)
	for _, at := range []int{1, 6, 5001, 14036, 14041} {
		checkFault(t, s+s[at:at+2]+":x}", len(s), api.ErrTwice)
	}
}

// P2: answers are new memory.

// scribble over all of a value's memory, the room behind its lists included.
func scribble(v *api.Value) {
	for i := range v.L[:cap(v.L)] {
		scribble(&v.L[:cap(v.L)][i])
	}
	for i := range v.E[:cap(v.E)] {
		e := &v.E[:cap(v.E)][i]
		scribble(&e.V)
		e.Key = "scribble"
	}
	*v = api.Value{Kind: -7, N: 7, F: 7, S: "scribble"}
}

func TestAnswersAreNewMemory(t *testing.T) {
	w := newWriter(3)
	for i := range 1000 {
		pieces, want := w.document(1 + i%6)
		s, _ := sourceOf(pieces)
		if len(s) > 20000 {
			continue
		}
		first, _, _ := mean.Mean(s)
		second, _, _ := mean.Mean(s)
		scribble(&first)
		if !same(second, want) {
			t.Fatalf("two answers of Mean(%q) share memory", s)
		}
		checkMeans(t, s, want)
	}
}

func TestPartsShareNoMemory(t *testing.T) {
	const s = `[[1,2,3],{a:[1],b:{c:1}}]`
	part := list(list(whole(1), whole(2), whole(3)), table(entry("a", list(whole(1))), entry("b", table(entry("c", whole(1))))))
	v, _, e := mean.Mean("[" + elements(s, 3) + "]")
	if e != api.OK {
		t.Fatal(e)
	}
	scribble(&v.L[1])
	if !same(v.L[0], part) || !same(v.L[2], part) {
		t.Error("parts share memory")
	}
	scribble(&v.L[0].L[0])
	if !same(v.L[0].L[1], part.L[1]) {
		t.Error("parts of a part share memory")
	}
}
