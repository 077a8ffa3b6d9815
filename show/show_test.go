package show_test

import (
	"fmt"
	"math"
	"strings"
	"testing"

	"typecase/api"
	"typecase/mean"
	"typecase/show"
	"typecase/val"
)

// checkTold: is v told so, on one line and on many?
func checkTold(t *testing.T, v api.Value, line, lines string) {
	t.Helper()
	if s, e := show.Line(v); s != line || e != api.OK {
		t.Errorf("Line(%.300s) is %.300q and %d, not %.300q", fmt.Sprint(v), s, e, line)
	}
	if s, e := show.Show(v); s != lines || e != api.OK {
		t.Errorf("Show(%.300s) is %.300q and %d, not %.300q", fmt.Sprint(v), s, e, lines)
	}
}

// checkRead: does each of the two documents mean v, if there is room for it in a document?
func checkRead(t *testing.T, v api.Value) {
	t.Helper()
	line, _ := show.Line(v)
	lines, _ := show.Show(v)
	for _, s := range []string{line, lines} {
		want, wantErr := v, api.OK
		if len(s) > 20000 {
			want, wantErr = null(), api.ErrLarge
		}
		if read, _, e := mean.Mean(s); !same(read, want) || e != wantErr {
			t.Errorf("%.300q is read as %.300s and %d, not %.300s and %d", s, fmt.Sprint(read), e, fmt.Sprint(want), wantErr)
		}
	}
}

// checkGood value, against the reference, and by reading it.
func checkGood(t *testing.T, v api.Value) {
	t.Helper()
	checkTold(t, v, modelLine(v), modelShow(v))
	checkRead(t, v)
}

// checkRefused: is v told in no way, with this error?
func checkRefused(t *testing.T, v api.Value, want api.Errno) {
	t.Helper()
	if s, e := show.Line(v); s != "" || e != want {
		t.Errorf("Line(%.300s) is %.300q and %d, not %d", fmt.Sprint(v), s, e, want)
	}
	if s, e := show.Show(v); s != "" || e != want {
		t.Errorf("Show(%.300s) is %.300q and %d, not %d", fmt.Sprint(v), s, e, want)
	}
}

// P120 and P121: leaves are the same in both, but for the end.

func TestLeaves(t *testing.T) {
	for want, v := range map[string]api.Value{
		"null": null(), "true": boolean(1), "false": boolean(0),
		"0": whole(0), "7": whole(7), "-7": whole(-7), "1000000": whole(1000000), "9223372036854775807": whole(math.MaxInt64), "-9223372036854775808": whole(math.MinInt64),
		"0.0": number(0), "-0.0": fraction(1 << 63), "1.0": number(1), "-1.0": number(-1), "0.1": number(0.1), "1.5": number(1.5), "1e22": number(1e22), "1e-7": number(1e-7), "1.7976931348623157e308": number(math.MaxFloat64), "5e-324": fraction(1),
		"nan": fraction(0x7ff8000000000001), "inf": number(math.Inf(1)), "-inf": number(math.Inf(-1)),
		`""`: text(""), `"a"`: text("a"), `"null"`: text("null"), `"1"`: text("1"), `"a b"`: text("a b"), `"\"\\/"`: text(`"\/`), `"\n\t\r"`: text("\n\t\r"), `"\u{0}\u{1f}\u{7f}"`: text("\x00\x1f\x7f"), `"é€"`: text("é€"), `"[1, {}]"`: text("[1, {}]"), `"# a"`: text("# a"),
		"[]": list(), "{}": table(),
	} {
		checkTold(t, v, want, want+"\n")
		checkTold(t, list(v), "["+want+"]", "[\n  "+want+",\n]\n")
		checkTold(t, table(entry("a", v)), "{a: "+want+"}", "{\n  a: "+want+",\n}\n")
		checkGood(t, v)
	}
}

func TestLists(t *testing.T) {
	checkTold(t, list(whole(3), whole(1), whole(1)), "[3, 1, 1]", "[\n  3,\n  1,\n  1,\n]\n")
	checkTold(t, list(list(), list(), table()), "[[], [], {}]", "[\n  [],\n  [],\n  {},\n]\n")
	checkTold(t, list(list(list())), "[[[]]]", "[\n  [\n    [],\n  ],\n]\n")
	checkTold(t, list(list(whole(1), list(whole(2), whole(3))), whole(4)), "[[1, [2, 3]], 4]", "[\n  [\n    1,\n    [\n      2,\n      3,\n    ],\n  ],\n  4,\n]\n")
	checkTold(t, list(text(", "), text("\n]")), `[", ", "\n]"]`, "[\n  \", \",\n  \"\\n]\",\n]\n")
}

func TestTables(t *testing.T) {
	checkTold(t, table(entry("a", whole(1)), entry("b", whole(2))), "{a: 1, b: 2}", "{\n  a: 1,\n  b: 2,\n}\n")
	checkTold(t, table(entry("a", table(entry("a", table(entry("a", table())))))), "{a: {a: {a: {}}}}", "{\n  a: {\n    a: {\n      a: {},\n    },\n  },\n}\n")
	checkTold(t, table(entry("a", list(whole(1), table(entry("b", null())))), entry("c", list())), "{a: [1, {b: null}], c: []}", "{\n  a: [\n    1,\n    {\n      b: null,\n    },\n  ],\n  c: [],\n}\n")
}

func TestKeys(t *testing.T) {
	for key, want := range map[string]string{
		"a": "a", "A_-9": "A_-9", "_": "_", "Null": "Null", "nulls": "nulls", strings.Repeat("k", 100): strings.Repeat("k", 100),
		"": `""`, "null": `"null"`, "true": `"true"`, "false": `"false"`, "nan": `"nan"`, "inf": `"inf"`, "1": `"1"`, "1.5": `"1.5"`, "-a": `"-a"`, "a b": `"a b"`, "a.b": `"a.b"`, "a:": `"a:"`, " ": `" "`, "é": `"é"`, "\"": `"\""`, "\\": `"\\"`, "a\n": `"a\n"`, "\x00": `"\u{0}"`,
	} {
		checkTold(t, table(entry(key, whole(1))), "{"+want+": 1}", "{\n  "+want+": 1,\n}\n")
	}
	all := table()
	for _, key := range keys() {
		all.E = append(all.E, entry(key, table(entry(key, list()))))
	}
	checkGood(t, all)
}

// P121: two blanks for each list and table around, as many as there may be.
func TestBlanksAhead(t *testing.T) {
	for lists := range 20 {
		var lines strings.Builder
		for i := range lists {
			lines.WriteString(strings.Repeat("  ", i) + "[\n")
		}
		lines.WriteString(strings.Repeat("  ", lists) + "7,\n")
		for i := range lists {
			lines.WriteString(strings.Repeat("  ", lists-1-i) + "],\n")
		}
		// Behind the outermost one there is no comma.
		want := strings.TrimSuffix(lines.String(), ",\n") + "\n"
		checkTold(t, nested(lists, whole(7)), strings.Repeat("[", lists)+"7"+strings.Repeat("]", lists), want)
		checkRead(t, nested(lists, whole(7)))
	}
	checkGood(t, nested(19, list()))
	checkGood(t, nested(19, table()))
}

func TestEachSmallValue(t *testing.T) {
	for nodes := 1; nodes <= 5; nodes++ {
		for _, v := range eachOf(nodes) {
			checkGood(t, v)
		}
	}
}

func TestMadeValues(t *testing.T) {
	m := newMaker(1)
	for i := range 5000 {
		checkGood(t, m.good(1+i%8))
	}
}

// No two values are told alike; and lines end only where they are to.
func TestEachValueHasItsOwnDocument(t *testing.T) {
	toldBy := map[string]api.Value{}
	m := newMaker(2)
	all := append(eachOf(3), eachOf(4)...)
	for i := range 3000 {
		all = append(all, m.good(1+i%5))
	}
	for _, v := range all {
		line, _ := show.Line(v)
		lines, _ := show.Show(v)
		for _, s := range []string{line, lines} {
			if w, ok := toldBy[s]; ok && !same(v, w) {
				t.Errorf("%v and %v are both %q", v, w, s)
			}
			toldBy[s] = v
		}
		if strings.Contains(line, "\n") || !strings.HasSuffix(lines, "\n") || strings.Contains(lines, "\n\n") || strings.Contains(lines, " \n") {
			t.Errorf("%v has other lines: %q, %q", v, line, lines)
		}
	}
}

// Wrong inputs: val.Check's error, and nothing beside it.

func TestLimits(t *testing.T) {
	wide := table()
	for i := range 200 {
		wide.E = append(wide.E, entry(fmt.Sprintf("%03d", i), null()))
	}
	for _, v := range []api.Value{
		text(strings.Repeat("a", 4000)), text(strings.Repeat("\x01", 4000)), table(entry(strings.Repeat("k", 100), null())), table(entry(strings.Repeat("\x01", 100), null())),
		many(200, null()), wide, linedUp(2000), nested(19, null()), nested(19, list()), nested(18, wide),
		{Kind: api.VText, S: "a", L: []api.Value{}, E: []api.Entry{}}, {L: []api.Value{}, E: []api.Entry{}},
	} {
		checkGood(t, v)
	}
	for _, c := range []struct {
		v    api.Value
		want api.Errno
	}{
		{text(strings.Repeat("a", 4001)), api.ErrLarge}, {table(entry(strings.Repeat("k", 101), null())), api.ErrLarge},
		{many(201, null()), api.ErrLarge}, {table(append(wide.E, entry("a", null()))...), api.ErrLarge}, {linedUp(2001), api.ErrLarge},
		{nested(20, null()), api.ErrDeep}, {nested(20, list()), api.ErrDeep}, {nested(100000, null()), api.ErrDeep},
		{text("\xff"), api.ErrText}, {text("a\xc3"), api.ErrText}, {table(entry("\xff", null())), api.ErrText},
		{table(entry("b", null()), entry("a", null())), api.ErrOrder}, {table(entry("a", null()), entry("a", null())), api.ErrOrder},
		// What is told first.
		{list(text("\xff"), boolean(2)), api.ErrText}, {list(boolean(2), text("\xff")), api.ErrKind}, {table(entry("a", text("\xff")), entry("a", null())), api.ErrOrder}, {list(linedUp(1999), text("\xff")), api.ErrLarge}, {list(linedUp(1998), text("\xff")), api.ErrText},
	} {
		checkRefused(t, c.v, c.want)
	}
}

func TestWrongKinds(t *testing.T) {
	for _, v := range []api.Value{
		{Kind: -1}, {Kind: 7}, {Kind: 9}, {Kind: math.MinInt}, {Kind: math.MaxInt},
		{N: 1}, {F: 1}, {S: "a"}, {L: []api.Value{{}}}, {E: []api.Entry{{}}},
		{Kind: api.VBool, N: -1}, {Kind: api.VBool, N: 2}, {Kind: api.VInt, F: 1}, {Kind: api.VFloat, N: 1}, {Kind: api.VText, L: []api.Value{{}}}, {Kind: api.VList, S: "a"}, {Kind: api.VList, E: []api.Entry{{}}}, {Kind: api.VTable, L: []api.Value{{}}},
		fraction(0x7ff8000000000000), fraction(0xfff8000000000001), fraction(math.MaxUint64),
	} {
		for _, around := range []api.Value{v, list(null(), v), list(v, text("\xff")), table(entry("a", v)), nested(19, v)} {
			checkRefused(t, around, api.ErrKind)
		}
	}
}

// What is part of itself has no end: it is too deep, and could not be printed here.
func TestPartOfItself(t *testing.T) {
	elements := make([]api.Value, 1)
	elements[0] = list(elements...)
	entries := []api.Entry{entry("a", null()), entry("b", null())}
	entries[0].V, entries[1].V = table(entries...), table(entries...)
	for _, v := range []api.Value{elements[0], entries[0].V} {
		line, e := show.Line(v)
		lines, f := show.Show(v)
		if line+lines != "" || e != api.ErrDeep || f != api.ErrDeep {
			t.Errorf("of %d bytes and %d, and %d bytes and %d", len(line), e, len(lines), f)
		}
	}
}

func TestSpoiledValues(t *testing.T) {
	m := newMaker(3)
	for i := range 4000 {
		v := m.good(1 + i%8)
		for range 1 + m.IntN(3) {
			m.spoil(&v)
		}
		if e := val.Check(v); e != api.OK {
			checkRefused(t, v, e)
		} else {
			checkGood(t, v)
		}
	}
}

// Good values may be told by far more bytes than a document may have.
func TestMuchIsTold(t *testing.T) {
	v := many(9, many(199, text(strings.Repeat("\n", 4000))))
	line, e := show.Line(v)
	if want := 9*(199*(2+2*4000)+198*2+2) + 8*2 + 2; len(line) != want || e != api.OK {
		t.Errorf("Line answers %d bytes and %d, not %d bytes", len(line), e, want)
	}
	lines, e := show.Show(v)
	if want := 9*(199*(4+2+2*4000+2)+2+2+2+3) + 4; len(lines) != want || e != api.OK {
		t.Errorf("Show answers %d bytes and %d, not %d bytes", len(lines), e, want)
	}
	checkGood(t, v)
}

// P2: nothing is changed, the room behind lists included, and nothing is kept from call to call.
func TestNothingIsChangedOrKept(t *testing.T) {
	m := newMaker(4)
	for i := range 1000 {
		v := m.good(2 + i%6)
		room := list(v, text("behind"), null())
		given := list(room.L[:1]...)
		was := bare(room)
		line, _ := show.Line(given)
		lines, _ := show.Show(given)
		if !same(room, was) {
			t.Fatalf("%v was changed to %v", was, room)
		}
		show.Line(m.good(3))
		show.Show(text("\xff"))
		room.L[0] = text("other")
		if line != modelLine(list(was.L[0])) || lines != modelShow(list(was.L[0])) {
			t.Fatalf("what was told of %v is now %q and %q", was.L[0], line, lines)
		}
		checkTold(t, given, `["other"]`, "[\n  \"other\",\n]\n")
	}
}
