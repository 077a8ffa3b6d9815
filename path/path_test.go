package path_test

import (
	"fmt"
	"math"
	"runtime/debug"
	"slices"
	"strings"
	"testing"

	"typecase/api"
	"typecase/path"
	"typecase/val"
)

// P130: which paths there are.

// checkCheck: is this what Check says of p, and all that the others, which ask it first, say?
func checkCheck(t *testing.T, p []api.Step, want api.Errno) {
	t.Helper()
	if e := path.Check(p); e != want {
		t.Errorf("Check(%.300q) is %d, not %d", fmt.Sprint(p), e, want)
	}
	if e := modelCheck(p); e != want {
		t.Errorf("the model says %d of %.300q, not %d", e, fmt.Sprint(p), want)
	}
	if want == api.OK {
		return
	}
	if s, e := path.Text(p); s != "" || e != want {
		t.Errorf("Text(%.300q) is %q and %d, not %d", fmt.Sprint(p), s, e, want)
	}
	for _, v := range []api.Value{whole(7), list(list()), table(entry("a", list()))} {
		if w, e := path.Get(v, p); !same(w, null()) || e != want {
			t.Errorf("Get(%v, %.300q) is %v and %d, not %d", v, fmt.Sprint(p), w, e, want)
		}
	}
}

func TestCheckTakes(t *testing.T) {
	checkCheck(t, nil, api.OK)
	checkCheck(t, steps(), api.OK)
	for _, k := range keys() {
		checkCheck(t, steps(key(k)), api.OK)
		checkCheck(t, steps(place(3), key(k), key(k)), api.OK)
	}
	for _, i := range append(places(), 1<<62+1, math.MaxInt) {
		checkCheck(t, steps(place(i)), api.OK)
		checkCheck(t, steps(key("a"), place(i), place(i)), api.OK)
	}
}

func TestCheckBounds(t *testing.T) {
	for _, s := range []api.Step{place(0), key(""), key("a")} {
		checkCheck(t, slices.Repeat(steps(s), 19), api.OK)
		checkCheck(t, slices.Repeat(steps(s), 20), api.OK)
		checkCheck(t, slices.Repeat(steps(s), 21), api.ErrDeep)
		checkCheck(t, slices.Repeat(steps(s), 5000), api.ErrDeep)
	}
	for _, i := range []int{-2, -3, -256, math.MinInt32, math.MinInt} {
		checkCheck(t, steps(place(i)), api.ErrArg)
		checkCheck(t, steps(api.Step{Key: "a", I: i}), api.ErrArg)
	}
	for _, i := range append(places(), math.MaxInt) {
		checkCheck(t, steps(api.Step{Key: "a", I: i}), api.ErrArg)
		checkCheck(t, steps(api.Step{Key: "\x00", I: i}), api.ErrArg)
	}
	for k, want := range map[string]api.Errno{
		strings.Repeat("k", 100): api.OK, strings.Repeat("k", 101): api.ErrLarge, strings.Repeat("k", 10000): api.ErrLarge,
		strings.Repeat("é", 50): api.OK, strings.Repeat("é", 50) + "a": api.ErrLarge, strings.Repeat("€", 33): api.OK, strings.Repeat("€", 34): api.ErrLarge,
		"\xff": api.ErrText, "a\x80": api.ErrText, "\xc3": api.ErrText, "\xc0\x80": api.ErrText, "\xed\xa0\x80": api.ErrText, "\xf4\x90\x80\x80": api.ErrText, "é\xe2\x82": api.ErrText, "\ufffd": api.OK,
	} {
		checkCheck(t, steps(key(k)), want)
		checkCheck(t, slices.Repeat(steps(key(k)), 20), want)
		checkCheck(t, steps(place(0), key("a"), key(k), place(0)), want)
	}
}

// TestCheckTellsTheFirst of several errors: of the whole, then step by step, and of each as P130 tells them.
func TestCheckTellsTheFirst(t *testing.T) {
	arg, large, strange := place(-2), key(strings.Repeat("\xff", 101)), key("\xff")
	for _, c := range []struct {
		p    []api.Step
		want api.Errno
	}{
		{append(steps(arg), make([]api.Step, 19)...), api.ErrArg},
		{append(steps(arg), make([]api.Step, 20)...), api.ErrDeep},
		{append(steps(strange), make([]api.Step, 20)...), api.ErrDeep},
		{append(make([]api.Step, 20), large), api.ErrDeep},
		{steps(large), api.ErrLarge},
		{steps(api.Step{Key: large.Key, I: -2}), api.ErrArg},
		{steps(api.Step{Key: large.Key, I: 0}), api.ErrArg},
		{steps(api.Step{Key: "\xff", I: 0}), api.ErrArg},
		{steps(arg, large, strange), api.ErrArg},
		{steps(large, arg, strange), api.ErrLarge},
		{steps(strange, arg, large), api.ErrText},
		{steps(strange, large, arg), api.ErrText},
		{steps(key("a"), strange, arg), api.ErrText},
		{steps(place(0), api.Step{Key: "a", I: 0}, strange), api.ErrArg},
	} {
		checkCheck(t, c.p, c.want)
	}
}

func TestCheckSpoiledPaths(t *testing.T) {
	m := newMaker(130)
	told := map[api.Errno]int{}
	for range 20000 {
		p := m.path()
		for range 1 + m.IntN(2) {
			p = m.spoilPath(p)
		}
		want := modelCheck(p)
		told[want]++
		checkCheck(t, p, want)
	}
	for _, e := range []api.Errno{api.OK, api.ErrArg, api.ErrLarge, api.ErrText, api.ErrDeep} {
		if told[e] < 100 {
			t.Errorf("%d was told %d times only", e, told[e])
		}
	}
}

// P131: paths as texts.

// checkText: is p told so, and read from that?
func checkText(t *testing.T, p []api.Step, want string) {
	t.Helper()
	if s, e := path.Text(p); s != want || e != api.OK {
		t.Errorf("Text(%v) is %q and %d, not %q", p, s, e, want)
	}
	checkRead(t, want, p, api.OK)
}

// checkRead: is this read of s, and does the model say so?
func checkRead(t *testing.T, s string, want []api.Step, wantErr api.Errno) {
	t.Helper()
	if p, e := path.Read(s); !slices.Equal(p, want) || e != wantErr {
		t.Errorf("Read(%.300q) is %v and %d, not %v and %d", s, p, e, want, wantErr)
	}
	if p, e := modelRead(s); !slices.Equal(p, want) || e != wantErr {
		t.Errorf("the model says %v and %d of %.300q, not %v and %d", p, e, s, want, wantErr)
	}
}

func TestTextAndRead(t *testing.T) {
	for want, p := range map[string][]api.Step{
		"$":                      nil,
		"$.a":                    steps(key("a")),
		"$[0]":                   steps(place(0)),
		"$.a[0]":                 steps(key("a"), place(0)),
		"$[10].a":                steps(place(10), key("a")),
		"$.a.b.a":                steps(key("a"), key("b"), key("a")),
		"$[1][0][200]":           steps(place(1), place(0), place(200)),
		"$._.A-9":                steps(key("_"), key("A-9")),
		"$.Null.nulls":           steps(key("Null"), key("nulls")),
		`$.""`:                   steps(key("")),
		`$."".""`:                steps(key(""), key("")),
		`$."1"[1]`:               steps(key("1"), place(1)),
		`$."-1"`:                 steps(key("-1")),
		`$."-a".a-`:              steps(key("-a"), key("a-")),
		`$."null"."nan"`:         steps(key("null"), key("nan")),
		`$."true"."false"."inf"`: steps(key("true"), key("false"), key("inf")),
		`$."a b"`:                steps(key("a b")),
		`$."a.b".c`:              steps(key("a.b"), key("c")),
		`$."[0]"[0]`:             steps(key("[0]"), place(0)),
		`$."]"."["`:              steps(key("]"), key("[")),
		`$."$"`:                  steps(key("$")),
		`$."\""."\\"`:            steps(key(`"`), key(`\`)),
		`$."\n\t\r"`:             steps(key("\n\t\r")),
		`$."\u{0}\u{1f}\u{7f}"`:  steps(key("\x00\x1f\x7f")),
		`$."/"."é€"`:             steps(key("/"), key("é€")),
		`$."\"].a"`:              steps(key(`"].a`)),
		"$[4611686018427387904]": steps(place(1 << 62)),
		"$[4611686018427387903]": steps(place(1<<62 - 1)),
	} {
		checkText(t, p, want)
	}
}

func TestTextAndReadAtTheLimits(t *testing.T) {
	long, longer := strings.Repeat("k", 100), strings.Repeat("k", 101)
	checkText(t, steps(key(long)), "$."+long)
	checkText(t, steps(key("-"+long[1:])), `$."-`+long[1:]+`"`)
	checkText(t, steps(key(strings.Repeat("\x01", 100))), `$."`+strings.Repeat(`\u{1}`, 100)+`"`)
	checkText(t, steps(key(strings.Repeat("é", 50))), `$."`+strings.Repeat("é", 50)+`"`)
	checkText(t, slices.Repeat(steps(key("\x1f"+long[1:])), 20), "$"+strings.Repeat(`."\u{1f}`+long[1:]+`"`, 20))
	for _, s := range []string{"$." + longer, `$."` + longer + `"`, `$."-` + long + `"`, `$."` + strings.Repeat(`\u{1}`, 101) + `"`, `$."` + strings.Repeat("é", 51) + `"`, `$."` + strings.Repeat("é", 50) + ` "`} {
		checkRead(t, s, nil, api.ErrForm)
	}
	for text, s := range map[string]api.Step{"[0]": place(0), ".a": key("a"), `.""`: key(""), "[4611686018427387904]": place(1 << 62)} {
		for n := range 21 {
			checkText(t, slices.Repeat(steps(s), n), "$"+strings.Repeat(text, n))
		}
		for _, n := range []int{21, 22, 1000, 100000} {
			checkRead(t, "$"+strings.Repeat(text, n), nil, api.ErrForm)
		}
		// Too many steps, whatever stands behind them.
		checkRead(t, "$"+strings.Repeat(text, 21)+"!", nil, api.ErrForm)
		checkRead(t, "$"+strings.Repeat(text, 20)+"!", nil, api.ErrForm)
	}
}

// TestGreatPlaces: Check takes them, so they are told; but they are not read.
func TestGreatPlaces(t *testing.T) {
	for want, i := range map[string]int{"$[4611686018427387905]": 1<<62 + 1, "$[9223372036854775807]": math.MaxInt} {
		if s, e := path.Text(steps(place(i))); s != want || e != api.OK {
			t.Errorf("Text of %d is %q and %d", i, s, e)
		}
		checkRead(t, want, nil, api.ErrForm)
	}
	for _, digits := range []string{"4611686018427387910", "9223372036854775808", "18446744073709551615", "18446744073709551616", "18446744073709551617", strings.Repeat("9", 79), strings.Repeat("9", 80), strings.Repeat("9", 81), strings.Repeat("1", 10000)} {
		checkRead(t, "$["+digits+"]", nil, api.ErrForm)
	}
}

func TestReadRefuses(t *testing.T) {
	for _, s := range []string{
		// The front.
		"", " ", "a", ".a", "[0]", "$$", " $", "$ ", "\n$", "$\n", "$a", "$0", "$\"a\"", "$]", "$}", "a$", "\xef\xbb\xbf$", "\xff", "$\xff", "$\x00",
		// Keys that are not bare without quotes, and bare ones with them.
		"$.", "$..", "$..a", "$.a.", "$.a..b", "$.1", "$.-", "$.-a", "$.a b", "$.a ", "$. a", "$.a:", "$.é", "$.aé", "$.a/", "$.$", "$.a$", "$.a]", "$.]", "$.a\"", "$.a\"b\"", "$.a\\", "$.a\n", "$.a\x00", "$.a\xff", "$.null", "$.true", "$.false", "$.nan", "$.inf", "$.null.a", "$.a.null", "$.null[0]", `$."a"`, `$."a_-9"`, `$."Null"`, `$.a."b"`, `$."a".""`,
		// Quotes.
		`$."`, `$."a`, `$."a b`, `$."a b\"`, `$."a b""`, `$."a b"a`, `$."a b" `, `$."a b"c"`, `$.'a b'`, `$""`, `$.a""`, "$.\"a\nb\"", "$.\"\t\"", "$.\"\r\"", "$.\"\x00\"", "$.\"\x7f\"", "$.\"\xff\"", "$.\"\xed\xa0\x80\"",
		// What is said in another way than Quote tells it.
		`$."\/"`, `$." \/"`, `$."\u{9}"`, `$."\u{a}"`, `$."\u{d}"`, `$."\u{20}"`, `$."\u{22}"`, `$."\u{5c}"`, `$."\u{41}"`, `$."\u{e9}"`, `$."\u{01}"`, `$."\u{1F}"`, `$."\u{7F}"`, `$."\u{000001}"`, `$."\u{0000001}"`, `$."\u{}"`, `$."\u{g}"`, `$."\u{d800}"`, `$."\u{110000}"`, `$."\u1"`, `$."\x01"`, `$."\a"`, `$."\b"`, `$."\0"`,
		// Places.
		"$[", "$[]", "$[0", "$[[0]", "$[0]]", "$[0]0", "$[0] ", "$[0]a", "$[ 0]", "$[0 ]", "$[-0]", "$[-1]", "$[+1]", "$[00]", "$[01]", "$[0x1]", "$[0b1]", "$[0o1]", "$[1_0]", "$[1.0]", "$[1e1]", "$[a]", "$[\"a\"]", "$[0,1]", "$[.a]", "$.[0]", "$[0].", "$[0][", "$[-2]", "$[-9223372036854775808]", "$[٣]", "$(0)", "$[0\n]", "$[\x00]", "$[$]",
	} {
		checkRead(t, s, nil, api.ErrForm)
	}
}

func TestTextAndReadMadePaths(t *testing.T) {
	m := newMaker(131)
	for range 20000 {
		p := m.path()
		checkText(t, p, modelText(p))
	}
	for _, a := range keys() {
		for _, b := range keys() {
			checkText(t, steps(key(a), key(b), place(1), key(a)), modelText(steps(key(a), key(b), place(1), key(a))))
		}
	}
}

// TestKeysOfEachScalar that has a name of its own between quotes, and of those beside them.
func TestKeysOfEachScalar(t *testing.T) {
	for r := range rune(0x180) {
		for _, k := range []string{string(r), "a" + string(r), string(r) + "a"} {
			checkText(t, steps(key(k), place(0)), modelText(steps(key(k), place(0))))
		}
	}
}

// TestReadEachShortText: of all texts that are made of these pieces only those are read that are told.
func TestReadEachShortText(t *testing.T) {
	pieces := []string{"$", ".", "[", "]", `"`, `\`, "a", "n", "0", "1", "-", "_", "null", " ", "\xff"}
	layer := []string{""}
	read := 0
	for range 5 {
		var next []string
		for _, s := range layer {
			for _, piece := range pieces {
				next = append(next, s+piece)
			}
		}
		layer = next
		for _, s := range layer {
			// None is read that has another front: so longer ones are tried behind it.
			for _, s := range []string{s, "$" + s, `$."` + s} {
				p, e := modelRead(s)
				if q, f := path.Read(s); !slices.Equal(p, q) || e != f {
					t.Fatalf("Read(%q) is %v and %d, not %v and %d", s, q, f, p, e)
				}
				if e == api.OK {
					read++
				}
			}
		}
	}
	if read < 1000 {
		t.Errorf("%d texts were read only", read)
	}
}

func TestReadSpoiledTexts(t *testing.T) {
	m := newMaker(1311)
	told := map[api.Errno]int{}
	for range 40000 {
		s := modelText(m.path())
		for range 1 + m.IntN(2) {
			s = m.spoilText(s)
		}
		p, e := modelRead(s)
		told[e]++
		checkRead(t, s, p, e)
		if e != api.OK {
			continue
		}
		if again, e := path.Text(p); again != s || e != api.OK {
			t.Errorf("%q is read as %v, which is told as %q and %d", s, p, again, e)
		}
	}
	if told[api.OK] < 1000 || told[api.ErrForm] < 1000 {
		t.Errorf("told were %v", told)
	}
}

// P132: what a path leads to.

// checkGet: does p lead there, and does the model say so?
func checkGet(t *testing.T, v api.Value, p []api.Step, want api.Value, wantErr api.Errno) {
	t.Helper()
	if w, e := path.Get(v, p); !same(w, want) || e != wantErr {
		t.Errorf("Get(%.500s, %.200s) is %.300s and %d, not %.300s and %d", fmt.Sprint(v), fmt.Sprint(p), fmt.Sprint(w), e, fmt.Sprint(want), wantErr)
	}
	if w, e := modelGet(v, p); !same(w, want) || e != wantErr {
		t.Errorf("the model says %.300s and %d of %.500s, %.200s, not %.300s and %d", fmt.Sprint(w), e, fmt.Sprint(v), fmt.Sprint(p), fmt.Sprint(want), wantErr)
	}
}

func TestGet(t *testing.T) {
	inner := table(entry("", whole(3)), entry("x", list(text("y"))))
	v := table(entry("a", list(whole(1), inner, list())), entry("b", whole(2)), entry("c", table()), entry("null", null()))
	for _, c := range []struct {
		text string
		want api.Value
		e    api.Errno
	}{
		{"$", v, api.OK}, {"$.a", v.E[0].V, api.OK}, {"$.b", whole(2), api.OK}, {"$.c", table(), api.OK}, {`$."null"`, null(), api.OK},
		{"$.a[0]", whole(1), api.OK}, {"$.a[1]", inner, api.OK}, {"$.a[2]", list(), api.OK}, {`$.a[1].""`, whole(3), api.OK}, {"$.a[1].x", list(text("y")), api.OK}, {"$.a[1].x[0]", text("y"), api.OK},
		{"$.d", null(), api.ErrNone}, {"$.A", null(), api.ErrNone}, {"$.aa", null(), api.ErrNone}, {`$.""`, null(), api.ErrNone}, {"$.c.a", null(), api.ErrNone}, {"$.a[3]", null(), api.ErrNone}, {"$.a[4611686018427387904]", null(), api.ErrNone}, {"$.a[2][0]", null(), api.ErrNone}, {"$.a[1].x[1]", null(), api.ErrNone},
		{"$[0]", null(), api.ErrKind}, {"$.a.a", null(), api.ErrKind}, {`$.a.""`, null(), api.ErrKind}, {"$.b[0]", null(), api.ErrKind}, {"$.b.a", null(), api.ErrKind}, {`$."null".a`, null(), api.ErrKind}, {`$."null"[0]`, null(), api.ErrKind}, {"$.c[0]", null(), api.ErrKind}, {"$.a[1][0]", null(), api.ErrKind}, {"$.a[1].x[0][0]", null(), api.ErrKind}, {"$.a[1].x[0].y", null(), api.ErrKind},
		// What comes first counts.
		{"$.d.a", null(), api.ErrNone}, {"$.d[0]", null(), api.ErrNone}, {"$.a[3].a", null(), api.ErrNone}, {"$.b.a.a", null(), api.ErrKind}, {"$[0].a", null(), api.ErrKind}, {"$[9][9]", null(), api.ErrKind}, {"$.b[0].d", null(), api.ErrKind},
	} {
		p, e := path.Read(c.text)
		if e != api.OK {
			t.Errorf("%q is not read", c.text)
		}
		checkGet(t, v, p, c.want, c.e)
	}
}

// TestGetAsksCheckFirst: the path's own error counts ahead of all that is wrong on the way.
func TestGetAsksCheckFirst(t *testing.T) {
	v := table(entry("a", list(null())))
	for _, ahead := range [][]api.Step{nil, steps(key("a")), steps(place(0)), steps(key("b")), steps(key("a"), place(7)), steps(key("a"), place(0), place(0))} {
		checkGet(t, v, append(slices.Clone(ahead), place(-2)), null(), api.ErrArg)
		checkGet(t, v, append(slices.Clone(ahead), api.Step{Key: "a"}), null(), api.ErrArg)
		checkGet(t, v, append(slices.Clone(ahead), key("\xff")), null(), api.ErrText)
		checkGet(t, v, append(slices.Clone(ahead), key(strings.Repeat("k", 101))), null(), api.ErrLarge)
		checkGet(t, v, append(slices.Clone(ahead), make([]api.Step, 21)...), null(), api.ErrDeep)
	}
	// Such entries may be there: Check does not take paths to them.
	checkGet(t, table(entry("\xff", whole(1))), steps(key("\xff")), null(), api.ErrText)
	checkGet(t, table(entry(strings.Repeat("k", 101), whole(1))), steps(key(strings.Repeat("k", 101))), null(), api.ErrLarge)
}

func TestGetOfEachKind(t *testing.T) {
	for kind := -1; kind < 9; kind++ {
		v := api.Value{Kind: kind, N: 1, F: 2, S: "s", L: []api.Value{whole(7)}, E: []api.Entry{entry("a", whole(8))}}
		element, elementErr := null(), api.ErrKind
		if kind == api.VList {
			element, elementErr = whole(7), api.OK
		}
		value, entryErr := null(), api.ErrKind
		if kind == api.VTable {
			value, entryErr = whole(8), api.OK
		}
		checkGet(t, v, nil, v, api.OK)
		checkGet(t, v, steps(place(0)), element, elementErr)
		checkGet(t, v, steps(key("a")), value, entryErr)
		checkGet(t, list(v), steps(place(0), place(0)), element, elementErr)
		checkGet(t, table(entry("x", v)), steps(key("x"), key("a")), value, entryErr)
	}
}

// TestGetOfValuesThatAreNotGood: a key twice, in no order, too long lists, and what Check of values refuses elsewhere.
func TestGetOfValuesThatAreNotGood(t *testing.T) {
	v := table(entry("b", whole(1)), entry("a", whole(2)), entry("b", whole(3)), entry("", text("\xff")))
	checkGet(t, v, steps(key("a")), whole(2), api.OK)
	checkGet(t, v, steps(key("b")), whole(1), api.OK)
	checkGet(t, v, steps(key("")), text("\xff"), api.OK)
	checkGet(t, v, steps(key("c")), null(), api.ErrNone)
	long := noughts(5000)
	long.L[4999] = whole(9)
	checkGet(t, long, steps(place(4999)), whole(9), api.OK)
	checkGet(t, long, steps(place(5000)), null(), api.ErrNone)
	checkGet(t, list(api.Value{Kind: 99, S: "x"}), steps(place(0)), api.Value{Kind: 99, S: "x"}, api.OK)
	checkGet(t, nested(30, whole(5)), make([]api.Step, 20), nested(10, whole(5)), api.OK)
	checkGet(t, nested(20, whole(5)), make([]api.Step, 20), whole(5), api.OK)
	checkGet(t, nested(19, whole(5)), make([]api.Step, 20), null(), api.ErrKind)
	checkGet(t, nested(30, whole(5)), make([]api.Step, 21), null(), api.ErrDeep)
	for _, i := range []int{0, 1, 1 << 32, 1 << 62, math.MaxInt} {
		checkGet(t, list(), steps(place(i)), null(), api.ErrNone)
	}
}

func TestGetOfMadeValues(t *testing.T) {
	m := newMaker(132)
	told := map[api.Errno]int{}
	for i := range 6000 {
		v := m.value(1 + i%6)
		if i%2 == 0 {
			m.spoilValue(&v)
		}
		p := slices.Clone(pick(m, modelAll(v)))
		switch i % 5 {
		case 0:
			p = append(p, pick(m, []api.Step{place(0), place(3), key("a"), key("")}))
		case 1:
			p = m.spoilPath(p)
		case 2:
			p = m.path()
		}
		want, e := modelGet(v, p)
		told[e]++
		checkGet(t, v, p, want, e)
	}
	for _, e := range []api.Errno{api.OK, api.ErrKind, api.ErrNone, api.ErrArg, api.ErrText, api.ErrLarge, api.ErrDeep} {
		if told[e] < 20 {
			t.Errorf("%d was told %d times only", e, told[e])
		}
	}
}

// P132: all paths of a value.

// checkAll: are these its paths, by their texts?
func checkAll(t *testing.T, v api.Value, want ...string) {
	t.Helper()
	var got []string
	for _, p := range path.All(v) {
		s, e := path.Text(p)
		if e != api.OK {
			t.Errorf("of %v there is %v, of which Text says %d", v, p, e)
		}
		got = append(got, s)
	}
	if !slices.Equal(got, want) {
		t.Errorf("All(%v) is %q, not %q", v, got, want)
	}
}

func TestAll(t *testing.T) {
	for _, v := range []api.Value{null(), whole(1), text("a"), list(), table(), {Kind: api.VBool}, {Kind: api.VFloat}} {
		checkAll(t, v, "$")
	}
	checkAll(t, list(null()), "$", "$[0]")
	checkAll(t, list(null(), null(), null()), "$", "$[0]", "$[1]", "$[2]")
	checkAll(t, table(entry("", null()), entry("a", null()), entry("b c", null())), "$", `$.""`, "$.a", `$."b c"`)
	checkAll(t, list(list(null(), list()), null(), table(entry("a", list(null())))), "$", "$[0]", "$[0][0]", "$[0][1]", "$[1]", "$[2]", "$[2].a", "$[2].a[0]")
	checkAll(t, table(entry("a", table(entry("a", table(entry("a", null()))), entry("b", null()))), entry("b", null())), "$", "$.a", "$.a.a", "$.a.a.a", "$.a.b", "$.b")
}

// TestAllOfValuesThatAreNotGood: what has parts has paths to them, elements ahead of entries, in the order in which they stand.
func TestAllOfValuesThatAreNotGood(t *testing.T) {
	both := api.Value{Kind: 99, L: []api.Value{list(null()), null()}, E: []api.Entry{entry("b", list(null())), entry("a", null()), entry("b", null())}}
	checkAll(t, both, "$", "$[0]", "$[0][0]", "$[1]", "$.b", "$.b[0]", "$.a", "$.b")
	checkAll(t, api.Value{Kind: api.VText, L: []api.Value{null()}}, "$", "$[0]")
	checkAll(t, api.Value{Kind: api.VList, E: []api.Entry{entry("a", null())}}, "$", "$.a")
	strange := table(entry("\xff", list(null())), entry(strings.Repeat("k", 101), null()))
	if l := path.All(strange); !samePaths(l, modelAll(strange)) || len(l) != 4 {
		t.Errorf("All(%v) is %v", strange, l)
	}
	// Deeper than Check takes a path.
	if l := path.All(nested(50, null())); len(l) != 51 || !slices.Equal(l[50], make([]api.Step, 50)) {
		t.Errorf("of a deep value there are %d paths", len(l))
	}
}

func TestAllTellsTheFirstThousand(t *testing.T) {
	rows := list()
	for range 10 {
		rows.L = append(rows.L, noughts(150))
	}
	wide := table()
	for i := range 1200 {
		wide.E = append(wide.E, entry(fmt.Sprintf("k%04d", i), null()))
	}
	for _, c := range []struct {
		v    api.Value
		want int
	}{
		{noughts(997), 998}, {noughts(998), 999}, {noughts(999), 1000}, {noughts(1000), 1000}, {noughts(1001), 1000}, {noughts(100000), 1000},
		{wide, 1000}, {rows, 1000}, {list(noughts(997)), 999}, {list(noughts(998)), 1000}, {list(noughts(998), null()), 1000}, {list(noughts(998), noughts(5), null()), 1000}, {list(null(), noughts(997), null()), 1000}, {list(null(), noughts(996), null()), 1000}, {list(null(), noughts(995), null()), 999},
		{api.Value{L: make([]api.Value, 998), E: wide.E}, 1000}, {api.Value{L: make([]api.Value, 999), E: wide.E}, 1000}, {nested(998, null()), 999}, {nested(999, null()), 1000}, {nested(1000, null()), 1000}, {nested(1500, null()), 1000},
	} {
		l := path.All(c.v)
		if len(l) != c.want || !samePaths(l, modelAll(c.v)) {
			t.Errorf("of %.100s there are %d paths, not %d, or other ones", fmt.Sprint(c.v), len(l), c.want)
		}
	}
}

func TestAllOfMadeValues(t *testing.T) {
	m := newMaker(1321)
	for i := range 5000 {
		v := m.value(1 + i%6)
		good := val.Check(v) == api.OK
		if i%2 == 0 {
			m.spoilValue(&v)
			good = false
		}
		l := path.All(v)
		if !samePaths(l, modelAll(v)) {
			t.Fatalf("All(%.500s) is %.500s", fmt.Sprint(v), fmt.Sprint(l))
		}
		if !good {
			continue
		}
		// Of a good value each path can be told, read and gone; and there are as many as nodes.
		if len(l) != min(1000, val.Nodes(v)) {
			t.Fatalf("of %v there are %d paths", v, len(l))
		}
		for _, p := range l {
			s, _ := path.Text(p)
			if q, e := path.Read(s); !slices.Equal(p, q) || e != api.OK {
				t.Fatalf("%v is told as %q, and read as %v and %d", p, s, q, e)
			}
			if _, e := path.Get(v, p); e != api.OK {
				t.Fatalf("Get(%v, %q) is %d", v, s, e)
			}
		}
	}
}

// P1: what is so deep that calls within calls would not do, or has no end at all.

func TestVeryDeepValues(t *testing.T) {
	defer debug.SetMaxStack(debug.SetMaxStack(4 << 20))
	const deep = 200000
	v := nested(deep, null())
	u := null()
	for range deep {
		u = table(entry("k", u))
	}
	if w, e := path.Get(v, make([]api.Step, 20)); val.Depth(w) != deep-19 || e != api.OK {
		t.Errorf("what is come to is %d deep, and %d", val.Depth(w), e)
	}
	for _, v := range []api.Value{v, u} {
		if l := path.All(v); len(l) != 1000 || len(l[999]) != 999 {
			t.Errorf("of a very deep value there are %d paths", len(l))
		}
	}
}

func TestPartOfItself(t *testing.T) {
	elements := make([]api.Value, 3)
	elements[0] = list(elements...)
	entries := []api.Entry{entry("a", null()), entry("b", null())}
	entries[0].V, entries[1].V = whole(1), table(entries...)
	if l := path.All(elements[0]); len(l) != 1000 || len(l[999]) != 999 {
		t.Errorf("of what is part of itself there are %d paths", len(l))
	}
	if l := path.All(entries[1].V); len(l) != 1000 || len(l[999]) != 500 {
		t.Errorf("of what is part of itself there are %d paths", len(l))
	}
	b := slices.Repeat(steps(key("b")), 20)
	b[19] = key("a")
	if w, e := path.Get(entries[1].V, b); w.N != 1 || e != api.OK {
		t.Errorf("in what is part of itself %v and %d is come to", w, e)
	}
}

// P2: nothing that is handed in is changed or kept, and answers are new memory.

func TestNothingIsChanged(t *testing.T) {
	m := newMaker(2)
	for i := range 1000 {
		v := m.value(1 + i%6)
		room := append(slices.Clone(pick(m, modelAll(v))), key("behind"), place(-7))
		p := room[:len(room)-2]
		roomWas, was := slices.Clone(room), bare(v)
		path.Check(p)
		path.Text(p)
		path.Get(v, p)
		path.All(v)
		if !slices.Equal(room, roomWas) || !same(v, was) {
			t.Fatalf("%v or %v was changed", roomWas, was)
		}
	}
}

func TestGetAnswersNewMemory(t *testing.T) {
	m := newMaker(3)
	for i := range 1000 {
		v := m.value(2 + i%5)
		if i%2 == 0 {
			m.spoilValue(&v)
		}
		was, p := bare(v), pick(m, modelAll(v))
		w, e := path.Get(v, p)
		if e != api.OK {
			continue
		}
		scribble(&w)
		if !same(v, was) {
			t.Fatalf("what %v leads to shares memory with %v", p, was)
		}
		w, _ = path.Get(v, p)
		want := bare(w)
		scribble(&v)
		if !same(w, want) {
			t.Fatalf("what %v leads to hangs on %v", p, was)
		}
	}
	// Two parts that share memory where they are handed in.
	part := list(whole(1))
	w, _ := path.Get(list(part, part), nil)
	scribble(&w.L[0].L[0])
	if !same(w.L[1], part) || !same(part, list(whole(1))) {
		t.Error("two parts of what is come to share memory")
	}
}

func TestAllAnswersNewMemory(t *testing.T) {
	m := newMaker(4)
	for i := range 500 {
		v := m.value(1 + i%6)
		was := bare(v)
		l := path.All(v)
		want := modelAll(v)
		scribble(&v)
		if !samePaths(l, want) {
			t.Fatalf("the paths of %v hang on it", was)
		}
		for k := range l {
			scribbleSteps(l[k])
			if !samePaths(l[k+1:], want[k+1:]) {
				t.Fatalf("path %d of %v shares memory with another one", k, was)
			}
		}
		if again := path.All(was); !samePaths(again, want) {
			t.Fatalf("the paths of %v are kept", was)
		}
	}
}

func TestReadAnswersNewMemory(t *testing.T) {
	const s = `$.a[3]."b c"`
	want := steps(key("a"), place(3), key("b c"))
	p, _ := path.Read(s)
	q, _ := path.Read(s)
	scribbleSteps(p)
	if again, _ := path.Read(s); !slices.Equal(q, want) || !slices.Equal(again, want) {
		t.Errorf("two readings of %q share memory: %v, %v", s, q, again)
	}
}
