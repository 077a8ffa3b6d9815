package edit_test

import (
	"fmt"
	"math"
	"slices"
	"strings"
	"testing"

	"typecase/api"
	"typecase/edit"
	"typecase/mean"
	"typecase/path"
	"typecase/splice"
	"typecase/upd"
	"typecase/val"
)

// read a path.
func read(t *testing.T, s string) []api.Step {
	t.Helper()
	p, e := path.Read(s)
	if e != api.OK {
		t.Fatalf("%q is no path: %d", s, e)
	}
	return p
}

// means: the value of a document.
func means(t *testing.T, s string) api.Value {
	t.Helper()
	v, at, e := mean.Mean(s)
	if e != api.OK {
		t.Fatalf("%q is wrong at %d: %d", s, at, e)
	}
	return v
}

func brief(x any) string { return fmt.Sprintf("%.400s", fmt.Sprint(x)) }

// checkEdit: does o make this change, of this text, and does the model say so? Is what the text means then what upd.Apply makes of what it meant?
func checkEdit(t *testing.T, s string, o api.Op, want []api.Part, wantText string, wantAt int, wantErr api.Errno) {
	t.Helper()
	c, at, e := edit.Edit(s, o)
	if !slices.Equal(c, want) || at != wantAt || e != wantErr {
		t.Errorf("Edit(%.400q, %s) is %s, %d and %d, not %s, %d and %d", s, brief(o), brief(c), at, e, brief(want), wantAt, wantErr)
	}
	if c, made, at, e := modelEdit(s, o); !slices.Equal(c, want) || made != wantText || at != wantAt || e != wantErr {
		t.Errorf("the model says %s, %.400q, %d and %d of %.400q, %s", brief(c), made, at, e, s, brief(o))
	}
	if made, n, e := edit.Edits(s, []api.Op{o}); made != wantText || n != 0 || e != wantErr {
		t.Errorf("Edits(%.400q, %s) is %.400q, %d and %d, not %.400q and %d", s, brief(o), made, n, e, wantText, wantErr)
	}
	if wantErr == api.OK && e == api.OK {
		checkMeaning(t, s, o, c, wantText)
	}
}

// checkMeaning of what a change makes of s.
func checkMeaning(t *testing.T, s string, o api.Op, c []api.Part, wantText string) {
	t.Helper()
	if made, e := splice.Apply(s, c); made != wantText || e != api.OK {
		t.Errorf("%s makes %.400q of %.400q, not %.400q", brief(c), made, s, wantText)
	}
	if normal, e := splice.Norm(c); !slices.Equal(normal, c) || e != api.OK {
		t.Errorf("%s is not normal", brief(c))
	}
	was, _, _ := mean.Mean(s)
	want, _ := upd.Apply(was, o)
	if got, _, e := mean.Mean(wantText); !same(got, want) || e != api.OK {
		t.Errorf("%.400q means %s, not %s (%d)", wantText, brief(got), brief(want), e)
	}
}

// stopIfFailed: what is made goes wrong thousands of times, if it does once.
func stopIfFailed(t *testing.T) {
	t.Helper()
	if t.Failed() {
		t.FailNow()
	}
}

// checkText: the same, without being told the change.
func checkText(t *testing.T, s string, o api.Op, wantText string) {
	t.Helper()
	c, _, _, _ := modelEdit(s, o)
	checkEdit(t, s, o, c, wantText, 0, api.OK)
}

// checkError: is this all that is told?
func checkError(t *testing.T, s string, o api.Op, wantAt int, wantErr api.Errno) {
	t.Helper()
	checkEdit(t, s, o, nil, "", wantAt, wantErr)
}

// trial of an update at a path of a text.
type trial struct{ s, at, want string }

func checkTrials(t *testing.T, o api.Op, trials []trial) {
	t.Helper()
	for _, c := range trials {
		o.P = read(t, c.at)
		checkText(t, c.s, o, c.want)
	}
}

// P160: what is set.

func TestSet(t *testing.T) {
	checkTrials(t, api.Op{Kind: api.USet, V: means(t, `{b: [7, "x"], "": null}`), Key: "\xff"}, []trial{
		{"1", "$", `{"": null, b: [7, "x"]}`},
		{" # n\n1 /* m */\n", "$", " # n\n" + `{"": null, b: [7, "x"]}` + " /* m */\n"},
		{"[/*,*/1#,\n,2,]", "$[0]", `[/*,*/{"": null, b: [7, "x"]}` + "#,\n,2,]"},
		{"[/*,*/1#,\n,2,]", "$[1]", "[/*,*/1#,\n," + `{"": null, b: [7, "x"]},]`},
		{"{a = {c:[ 1, 2 ] , } # n\n}", "$.a", `{a = {"": null, b: [7, "x"]}` + " # n\n}"},
		{"{a = {c:[ 1, 2 ] , } # n\n}", "$.a.c", `{a = {c:{"": null, b: [7, "x"]} , }` + " # n\n}"},
		{"{a = {c:[ 1, 2 ] , } # n\n}", "$.a.c[1]", `{a = {c:[ 1, {"": null, b: [7, "x"]} ] , }` + " # n\n}"},
		{`{"\u{61}":1,b:2}`, "$.a", `{"\u{61}":{"": null, b: [7, "x"]},b:2}`},
		{`{b:2,"a"=1}`, "$.a", `{b:2,"a"={"": null, b: [7, "x"]}}`},
		{`{"":{"":0}}`, `$."".""`, `{"":{"":{"": null, b: [7, "x"]}}}`},
	})
	for line, v := range map[string]api.Value{"null": null(), "true": {Kind: api.VBool, N: 1}, "-7": whole(-7), "nan": {Kind: api.VFloat, F: 0x7ff8000000000001}, "1.5": {Kind: api.VFloat, F: math.Float64bits(1.5)}, `"\n"`: text("\n"), "[]": list(), "{}": table()} {
		o := api.Op{Kind: api.USet, V: v}
		checkEdit(t, "\t1", o, []api.Part{keep(1), put(line), cut(1)}, "\t"+line, 0, api.OK)
		o.P = steps(key("a"))
		checkEdit(t, "{a:1}", o, []api.Part{keep(3), put(line), cut(1), keep(1)}, "{a:"+line+"}", 0, api.OK)
	}
}

func TestSetToWhatIsThere(t *testing.T) {
	// However it is written.
	for _, s := range []string{"7", "0x7", "0b1_11", " 7#", `"\u{61}"`, "1.50e0", "[ 1,\t2, # n\n]", `{"b":1, "a"=0x2,}`, "nan", "-0.0", "[]", "{ }", "null", "true"} {
		v := means(t, s)
		checkEdit(t, s, api.Op{Kind: api.USet, V: v}, []api.Part{keep(len(s))}, s, 0, api.OK)
		within := "{a: [0, " + s + "\n]}"
		checkEdit(t, within, api.Op{Kind: api.USet, P: read(t, "$.a[1]"), V: v}, []api.Part{keep(len(within))}, within, 0, api.OK)
	}
	// What is written alike, or is almost the same, is not the same.
	for _, c := range []struct{ was, is string }{{"1", "1.0"}, {"0.0", "-0.0"}, {"1", `"1"`}, {"[]", "{}"}, {"[1]", "[1, 1]"}, {`{a: 1}`, `{b: 1}`}, {"false", "0"}, {"null", "[]"}} {
		for _, way := range [][2]string{{c.was, c.is}, {c.is, c.was}} {
			checkEdit(t, way[0], api.Op{Kind: api.USet, V: means(t, way[1])}, []api.Part{put(way[1]), cut(len(way[0]))}, way[1], 0, api.OK)
		}
	}
}

// P160: what has another name.

func TestName(t *testing.T) {
	for name, trials := range map[string][]trial{
		"z":    {{"{a:1}", "$.a", "{z:1}"}, {`{"a b" /*n*/ = 1, c: 2}`, `$."a b"`, "{z /*n*/ = 1, c: 2}"}, {"[{a: {a: 1, b: 2}}]", "$[0].a", "[{z: {a: 1, b: 2}}]"}, {"[{a: {a: 1, b: 2}}]", "$[0].a.a", "[{a: {z: 1, b: 2}}]"}, {`{"":{},a:1}`, `$.""`, "{z:{},a:1}"}},
		"null": {{"{a#n\n:1}", "$.a", "{\"null\"#n\n:1}"}},
		"":     {{"{a:1}", "$.a", `{"":1}`}},
		"\n\"": {{"{a:1}", "$.a", `{"\n\"":1}`}},
		"é":    {{"{b:0,a:1,}", "$.a", `{b:0,"é":1,}`}},
		// Nothing, if it is that already, however it is written.
		"a": {{`{"a": 1}`, "$.a", `{"a": 1}`}, {`{"\u{61}": 1}`, "$.a", `{"\u{61}": 1}`}, {"{a: 1}", "$.a", "{a: 1}"}, {`{"b": 1}`, "$.b", "{a: 1}"}},
	} {
		checkTrials(t, api.Op{Kind: api.UName, Key: name, V: api.Value{Kind: 9}}, trials)
	}
	checkEdit(t, "{a: 1}", api.Op{Kind: api.UName, P: steps(key("a")), Key: "b"}, []api.Part{keep(1), put("b"), cut(1), keep(4)}, "{b: 1}", 0, api.OK)
	checkEdit(t, `{"a": 1}`, api.Op{Kind: api.UName, P: steps(key("a")), Key: "a"}, []api.Part{keep(8)}, `{"a": 1}`, 0, api.OK)
}

// P160: what is dropped.

func TestDrop(t *testing.T) {
	checkTrials(t, api.Op{Kind: api.UDrop, V: api.Value{Kind: 9}, Key: "\xff"}, []trial{
		// The `,` behind, what stands between stays.
		{"[1,2,3]", "$[0]", "[2,3]"}, {"[1,2,3]", "$[1]", "[1,3]"}, {"[ 1 /*,*/ , 2 ]", "$[0]", "[  /*,*/  2 ]"}, {"[1 #,\n\n\t, 2]", "$[0]", "[ #,\n\n\t 2]"}, {"[1,2,]", "$[1]", "[1,]"}, {"[1,]", "$[0]", "[]"}, {"[1 , # n\n]", "$[0]", "[  # n\n]"},
		// None behind: the one ahead.
		{"[1,2,3]", "$[2]", "[1,2]"}, {"[1 , /*n*/ 2 /*m*/ ]", "$[1]", "[1  /*n*/  /*m*/ ]"}, {"[1 # n\n, # m\n2]", "$[1]", "[1 # n\n # m\n]"},
		// None at all.
		{"[1]", "$[0]", "[]"}, {"[ 1 # ,\n ]", "$[0]", "[  # ,\n ]"}, {"{a:1}", "$.a", "{}"},
		// Entries go as a whole, and those next to them are not touched.
		{"{a: 1, b = [1, 2,], c: 3}", "$.a", "{ b = [1, 2,], c: 3}"}, {"{a: 1, b = [1, 2,], c: 3}", "$.b", "{a: 1,  c: 3}"}, {"{a: 1, b = [1, 2,], c: 3}", "$.c", "{a: 1, b = [1, 2,] }"},
		{`{"b" # n` + "\n = {x: 1} , a: 1}", "$.b", "{  a: 1}"},
		// A `,` outside of the list, or the table, is none of its things'.
		{"[[1], [2], [3]]", "$[1][0]", "[[1], [], [3]]"}, {"{a: {b: 1}, c: 2}", "$.a.b", "{a: {}, c: 2}"}, {"[0, [1]]", "$[1][0]", "[0, []]"}, {"[[1],[2]]", "$[1]", "[[1]]"}, {"[[1],[2]]", "$[0]", "[[2]]"},
		// What looks like a `,` is none.
		{`[",",1]`, "$[0]", "[1]"}, {`[1,","]`, "$[1]", "[1]"}, {`{",":1}`, `$.","`, "{}"},
	})
	drop := api.Op{Kind: api.UDrop, P: steps(place(1))}
	checkEdit(t, "[1, 2 , 3]", drop, []api.Part{keep(4), cut(1), keep(1), cut(1), keep(3)}, "[1,   3]", 0, api.OK)
	checkEdit(t, "[1, 2, 3]", drop, []api.Part{keep(4), cut(2), keep(3)}, "[1,  3]", 0, api.OK)
	checkEdit(t, "[1, 2]", drop, []api.Part{keep(2), cut(1), keep(1), cut(1), keep(1)}, "[1 ]", 0, api.OK)
	checkEdit(t, "[1,2]", drop, []api.Part{keep(2), cut(2), keep(1)}, "[1]", 0, api.OK)
}

// P160: what is added.

func TestAdd(t *testing.T) {
	checkTrials(t, api.Op{Kind: api.UAdd, V: means(t, "[7]"), Key: "\xff"}, []trial{
		// Ahead of an element.
		{"[1,2]", "$[0]", "[[7], 1,2]"}, {"[1,2]", "$[1]", "[1,[7], 2]"}, {"[ # n\n1 ]", "$[0]", "[ # n\n[7], 1 ]"}, {"[1, /*n*/ {a: 1},]", "$[1]", "[1, /*n*/ [7], {a: 1},]"}, {"[[1],[2]]", "$[1]", "[[1],[7], [2]]"},
		// Behind the last one, without and with a `,`.
		{"[1,2]", "$[2]", "[1,2, [7]]"}, {"[1 # n\n]", "$[1]", "[1, [7] # n\n]"}, {"[[1],[2]]", "$[1][1]", "[[1],[2, [7]]]"}, {"[[1],[2]]", "$[0][1]", "[[1, [7]],[2]]"},
		{"[1,2,]", "$[2]", "[1,2, [7]]"}, {"[1 # ,\n , # m\n]", "$[1]", "[1 # ,\n , [7] # m\n]"}, {"[1,\n]", "$[1]", "[1, [7]\n]"},
		{"{a: 1}", "$.b", "{a: 1, b: [7]}"}, {"{a: 1\n}", "$.b", "{a: 1, b: [7]\n}"}, {"{a: 1,\n}", "$.b", "{a: 1, b: [7]\n}"}, {"{a = {}/*,*/}", "$.b", "{a = {}, b: [7]/*,*/}"},
		// In a table that is what stands last in the text, whatever the keys are.
		{"{c: 1, a: 2}", "$.b", "{c: 1, a: 2, b: [7]}"}, {"{b: 1}", "$.a", "{b: 1, a: [7]}"}, {"{c: 1, a: 2,}", "$.d", "{c: 1, a: 2, d: [7]}"},
		// Where there is nothing.
		{"[]", "$[0]", "[[7]]"}, {"{}", "$.a", "{a: [7]}"}, {" [ # n\n ] ", "$[0]", " [[7] # n\n ] "}, {"{/*n*/}", "$.a", "{a: [7]/*n*/}"}, {"[[],[]]", "$[1][0]", "[[],[[7]]]"}, {"{a: {}, b: {}}", "$.a.b", "{a: {b: [7]}, b: {}}"},
		// Keys, as they are told.
		{"{}", `$.""`, `{"": [7]}`}, {"{a: 1}", `$."null"`, `{a: 1, "null": [7]}`}, {"{a: 1,}", `$."a b"`, `{a: 1, "a b": [7]}`}, {`{"a": 1}`, "$.A", `{"a": 1, A: [7]}`},
	})
	seven := whole(7)
	checkEdit(t, "[1]", api.Op{Kind: api.UAdd, P: steps(place(0)), V: seven}, []api.Part{keep(1), put("7, "), keep(2)}, "[7, 1]", 0, api.OK)
	checkEdit(t, "[1]", api.Op{Kind: api.UAdd, P: steps(place(1)), V: seven}, []api.Part{keep(2), put(", 7"), keep(1)}, "[1, 7]", 0, api.OK)
	checkEdit(t, "[1,]", api.Op{Kind: api.UAdd, P: steps(place(1)), V: seven}, []api.Part{keep(3), put(" 7"), keep(1)}, "[1, 7]", 0, api.OK)
	checkEdit(t, "{}", api.Op{Kind: api.UAdd, P: steps(key("a")), V: seven}, []api.Part{keep(1), put("a: 7"), keep(1)}, "{a: 7}", 0, api.OK)
}

// P160: the errors of what the text means, then of the update, then what would be too large.

func TestErrorsOfTheText(t *testing.T) {
	for _, c := range []struct {
		s    string
		at   int
		want api.Errno
	}{
		{"", 0, api.ErrForm}, {"{a: 1", 5, api.ErrForm}, {"{a: 1 ]", 6, api.ErrForm}, {"[1,,2]", 3, api.ErrForm}, {"1 2", 2, api.ErrForm}, {"[1, x]", 4, api.ErrForm}, {"{a: 1, null: 2}", 7, api.ErrForm}, {`[ "\x"]`, 2, api.ErrForm}, {"# n", 3, api.ErrForm},
		{"[\"\xff\"]", 1, api.ErrText}, {`{"\u{d800}": 1}`, 1, api.ErrText},
		{"{a: 1, a: 2}", 7, api.ErrTwice}, {`{a: 1, b: {a: 1, "\u{61}": 2}}`, 17, api.ErrTwice},
		{" 9223372036854775808", 1, api.ErrRange}, {"[1e999]", 1, api.ErrRange},
		{strings.Repeat(" ", 20000) + "1", 0, api.ErrLarge}, {" " + strings.Repeat("1", 81), 1, api.ErrLarge},
		{strings.Repeat("[", 21), 20, api.ErrDeep},
		{"[" + strings.Repeat("1,", 201) + "]", 0, api.ErrLarge}, {` "` + strings.Repeat("x", 4001) + `"`, 0, api.ErrLarge},
	} {
		// Whatever the update is.
		for _, o := range []api.Op{{Kind: api.USet, V: whole(1)}, {}, {Kind: 9}, {Kind: api.UDrop}, {Kind: api.UAdd, P: steps(place(-2)), V: text("\xff")}, {Kind: api.UName, P: steps(key("z")), Key: "\xff"}, {Kind: api.USet, V: large()}} {
			checkError(t, c.s, o, c.at, c.want)
		}
		checkEdits(t, c.s, nil, "", 0, c.want)
		checkEdits(t, c.s, []api.Op{{Kind: api.USet, V: whole(1)}, {Kind: 9}}, "", 0, c.want)
	}
}

// large value: good, but more than a document may be.
func large() api.Value {
	v := list()
	for range 6 {
		v.L = append(v.L, text(strings.Repeat("x", 4000)))
	}
	return v
}

func TestErrorsOfTheUpdate(t *testing.T) {
	const s = " {a: [1, 2], b: {c: 3}} "
	for _, c := range []struct {
		o    api.Op
		want api.Errno
	}{
		{api.Op{}, api.ErrArg}, {api.Op{Kind: 5}, api.ErrArg}, {api.Op{Kind: -1, V: large()}, api.ErrArg},
		{api.Op{Kind: api.UAdd, V: large()}, api.ErrArg}, {api.Op{Kind: api.UDrop}, api.ErrArg}, {api.Op{Kind: api.UName, Key: "a"}, api.ErrArg}, {api.Op{Kind: api.USet, P: steps(place(-2))}, api.ErrArg}, {api.Op{Kind: api.UDrop, P: steps(api.Step{Key: "a"})}, api.ErrArg},
		{api.Op{Kind: api.UDrop, P: make([]api.Step, 21)}, api.ErrDeep}, {api.Op{Kind: api.UDrop, P: steps(key("\xff"))}, api.ErrText}, {api.Op{Kind: api.UDrop, P: steps(key(strings.Repeat("k", 101)))}, api.ErrLarge},
		{api.Op{Kind: api.USet, V: text("\xff")}, api.ErrText}, {api.Op{Kind: api.UAdd, P: steps(key("z")), V: api.Value{Kind: 9}}, api.ErrKind}, {api.Op{Kind: api.UName, P: steps(key("a")), Key: "\xff"}, api.ErrText}, {api.Op{Kind: api.UName, P: steps(key("a")), Key: strings.Repeat("k", 101)}, api.ErrLarge},
		{api.Op{Kind: api.USet, P: steps(key("z")), V: large()}, api.ErrNone}, {api.Op{Kind: api.USet, P: steps(key("a"), place(2))}, api.ErrNone}, {api.Op{Kind: api.UAdd, P: steps(key("a"), place(3)), V: large()}, api.ErrNone}, {api.Op{Kind: api.UDrop, P: steps(key("b"), key("d"))}, api.ErrNone}, {api.Op{Kind: api.UName, P: steps(key("z")), Key: "z"}, api.ErrNone}, {api.Op{Kind: api.UAdd, P: steps(key("a"), place(math.MaxInt))}, api.ErrNone},
		{api.Op{Kind: api.USet, P: steps(place(0)), V: large()}, api.ErrKind}, {api.Op{Kind: api.UAdd, P: steps(place(0)), V: large()}, api.ErrKind}, {api.Op{Kind: api.UAdd, P: steps(key("a"), key("b"))}, api.ErrKind}, {api.Op{Kind: api.UDrop, P: steps(key("a"), key("b"))}, api.ErrKind}, {api.Op{Kind: api.UName, P: steps(key("a"), place(0)), Key: "z"}, api.ErrKind},
		{api.Op{Kind: api.UAdd, P: steps(key("a")), V: large()}, api.ErrThere}, {api.Op{Kind: api.UName, P: steps(key("a")), Key: "b"}, api.ErrThere},
	} {
		checkError(t, s, c.o, 0, c.want)
	}
	// What the text would mean is good as well.
	full := "[" + strings.Repeat("1,", 200) + "]"
	checkError(t, full, api.Op{Kind: api.UAdd, P: steps(place(3)), V: null()}, 0, api.ErrLarge)
	deep := strings.Repeat("[", 20) + strings.Repeat("]", 20)
	checkError(t, deep, api.Op{Kind: api.UAdd, P: make([]api.Step, 20), V: null()}, 0, api.ErrDeep)
	checkText(t, deep, api.Op{Kind: api.USet, P: make([]api.Step, 19), V: null()}, strings.Repeat("[", 19)+"null"+strings.Repeat("]", 19))
	checkError(t, deep, api.Op{Kind: api.USet, P: make([]api.Step, 19), V: list(null())}, 0, api.ErrDeep)
}

// sized document: s, and blanks up to so many bytes.
func sized(s string, size int) string { return s + strings.Repeat(" ", size-len(s)) }

func TestTooLarge(t *testing.T) {
	for _, c := range []struct {
		s, at, name string
		kind, more  int
	}{
		{"[12]", "$[0]", "", api.USet, 4},          // `"four"` for `12`
		{`{"a": 1}`, "$.a", "bcdef", api.UName, 2}, // `bcdef` for `"a"`
		{"{a: 1}", "$.a", "a b", api.UName, 4},
		{"[1]", "$[0]", "", api.UAdd, 8}, {"[1]", "$[1]", "", api.UAdd, 8}, {"[1,]", "$[1]", "", api.UAdd, 7}, {"[]", "$[0]", "", api.UAdd, 6},
		{"{a: 1}", "$.b", "", api.UAdd, 11}, {"{a: 1,}", "$.b", "", api.UAdd, 10}, {"{}", "$.b", "", api.UAdd, 9},
		{"[1]", "$[0]", "", api.UDrop, -1}, {"[1,2]", "$[0]", "", api.UDrop, -2},
		{"[1]", "$[0]", "", api.USet, 5},
	} {
		o := api.Op{Kind: c.kind, P: read(t, c.at), V: text("four"), Key: c.name}
		for size := 19985; size <= 20000; size++ {
			s := sized(c.s, size)
			if size+c.more > 20000 {
				checkError(t, s, o, 0, api.ErrLarge)
				continue
			}
			change, made, _, _ := modelEdit(s, o)
			if len(made) != size+c.more {
				t.Errorf("%v of %q makes %d more", o, c.s, len(made)-size)
			}
			checkEdit(t, s, o, change, made, 0, api.OK)
		}
	}
	// What is too much by itself, though no error of the update.
	for _, o := range []api.Op{{Kind: api.USet, V: large()}, {Kind: api.USet, P: steps(place(0)), V: large()}, {Kind: api.UAdd, P: steps(place(0)), V: large()}, {Kind: api.UAdd, P: steps(place(1)), V: large()}, {Kind: api.USet, V: text(strings.Repeat("\x01", 4000))}} {
		checkError(t, "[1]", o, 0, api.ErrLarge)
	}
	// Nothing is put, however large the text is.
	s := sized(`{a: 0x7, "b": 1}`, 20000)
	checkEdit(t, s, api.Op{Kind: api.USet, P: steps(key("a")), V: whole(7)}, []api.Part{keep(20000)}, s, 0, api.OK)
	checkEdit(t, s, api.Op{Kind: api.UName, P: steps(key("b")), Key: "b"}, []api.Part{keep(20000)}, s, 0, api.OK)
}

// P160: what it is for, over all small documents, and over made ones.

// updatesOf a value: all that change something at all places, and some that change nothing.
func updatesOf(v api.Value) []api.Op {
	var l []api.Op
	for _, p := range path.All(v) {
		there, _ := path.Get(v, p)
		for _, w := range []api.Value{there, text(","), list(whole(1), null())} {
			l = append(l, api.Op{Kind: api.USet, P: p, V: w})
		}
		for _, name := range []string{"a", "b", "d e"} {
			l = append(l, api.Op{Kind: api.UName, P: p, Key: name}, api.Op{Kind: api.UAdd, P: append(slices.Clone(p), key(name)), V: text("x")})
		}
		for i := range len(there.L) + 2 {
			l = append(l, api.Op{Kind: api.UAdd, P: append(slices.Clone(p), place(i)), V: whole(-7)})
		}
		l = append(l, api.Op{Kind: api.UDrop, P: p})
	}
	return l
}

// checkSmall: all texts of up to so many of these pieces that mean something; how many there are.
func checkSmall(t *testing.T, s string, most int, pieces []string) int {
	count := 0
	if v, _, e := mean.Mean(s); e == api.OK {
		count++
		for _, o := range updatesOf(v) {
			c, made, at, e := modelEdit(s, o)
			checkEdit(t, s, o, c, made, at, e)
		}
	}
	if most > 0 && !t.Failed() {
		for _, p := range pieces {
			count += checkSmall(t, s+p, most-1, pieces)
		}
	}
	return count
}

func TestSmallDocuments(t *testing.T) {
	for _, pieces := range [][]string{{"[", "]", "1", ",", " "}, {"[", "]", `","`, ",", "/*,*/"}, {"{", "}", "a:1", `"b"=`, ",", "#,\n"}, {"{", "}", "[", "]", `"\u{61}" : `, ","}, {"{", "[1]", "}", `a:`, "\r\n", ","}} {
		if count := checkSmall(t, "", 7, pieces); count < 20 {
			t.Errorf("%d texts of %q mean something only", count, pieces)
		}
	}
}

func TestMadeDocuments(t *testing.T) {
	m := newMaker(160)
	told, done := map[api.Errno]int{}, map[int]int{}
	for i := range 12000 {
		s := m.document(1 + i%4)
		o := m.update(means(t, s))
		c, made, at, e := modelEdit(s, o)
		told[e]++
		if e == api.OK {
			done[o.Kind]++
		}
		checkEdit(t, s, o, c, made, at, e)
		stopIfFailed(t)
	}
	for _, e := range []api.Errno{api.OK, api.ErrArg, api.ErrLarge, api.ErrText, api.ErrDeep, api.ErrNone, api.ErrThere, api.ErrKind, api.ErrOrder} {
		if told[e] == 0 {
			t.Errorf("%d was never told", e)
		}
	}
	for kind := api.USet; kind <= api.UName; kind++ {
		if done[kind] < 500 {
			t.Errorf("updates of Kind %d were done %d times only", kind, done[kind])
		}
	}
}

// TestSpoiledDocuments: texts that mostly mean nothing.
func TestSpoiledDocuments(t *testing.T) {
	m := newMaker(161)
	wrong := 0
	for i := range 10000 {
		s := m.document(1 + i%3)
		o := m.update(means(t, s))
		at := m.IntN(len(s) + 1)
		s = s[:at] + pick(m, "", ",", "{", "]", "\"", "\xff", "/", "#", "x", ":") + s[min(at+m.IntN(3), len(s)):]
		c, made, place, e := modelEdit(s, o)
		if _, _, f := mean.Mean(s); f != api.OK {
			wrong++
		}
		checkEdit(t, s, o, c, made, place, e)
		stopIfFailed(t)
	}
	if wrong < 1000 {
		t.Errorf("%d texts mean nothing only", wrong)
	}
}

// P161: one behind the other.

func checkEdits(t *testing.T, s string, l []api.Op, want string, wantAt int, wantErr api.Errno) {
	t.Helper()
	if made, at, e := edit.Edits(s, l); made != want || at != wantAt || e != wantErr {
		t.Errorf("Edits(%.400q, %s) is %.400q, %d and %d, not %.400q, %d and %d", s, brief(l), made, at, e, want, wantAt, wantErr)
	}
	if made, at, e := modelEdits(s, l); made != want || at != wantAt || e != wantErr {
		t.Errorf("the model says %.400q, %d and %d of %.400q, %s", made, at, e, s, brief(l))
	}
}

func TestEdits(t *testing.T) {
	const s = "# n\n{a: [1, 2], # m\n}"
	l := []api.Op{
		{Kind: api.UAdd, P: read(t, "$.b"), V: table()},
		{Kind: api.UAdd, P: read(t, "$.b.c"), V: list(whole(3))},
		{Kind: api.UName, P: read(t, "$.b"), Key: "A B"},
		{Kind: api.UDrop, P: read(t, "$.a[0]")},
		{Kind: api.UDrop, P: read(t, "$.a[0]")},
		{Kind: api.USet, P: read(t, `$."A B".c[0]`), V: text("x")},
	}
	for n, want := range []string{s, "# n\n{a: [1, 2], b: {} # m\n}", "# n\n{a: [1, 2], b: {c: [3]} # m\n}", "# n\n{a: [1, 2], \"A B\": {c: [3]} # m\n}", "# n\n{a: [ 2], \"A B\": {c: [3]} # m\n}", "# n\n{a: [ ], \"A B\": {c: [3]} # m\n}", "# n\n{a: [ ], \"A B\": {c: [\"x\"]} # m\n}"} {
		checkEdits(t, s, l[:n], want, 0, api.OK)
		// An error behind them, and what stands behind it.
		for _, bad := range []struct {
			o api.Op
			e api.Errno
		}{{api.Op{}, api.ErrArg}, {api.Op{Kind: api.UDrop, P: read(t, "$.z")}, api.ErrNone}, {api.Op{Kind: api.UDrop, P: read(t, "$.a.z")}, api.ErrKind}, {api.Op{Kind: api.UAdd, P: read(t, "$.a")}, api.ErrThere}, {api.Op{Kind: api.UName, P: read(t, "$.a"), Key: "\xff"}, api.ErrText}, {api.Op{Kind: api.USet, P: read(t, "$.a"), V: large()}, api.ErrLarge}} {
			spoiled := append(slices.Clone(l[:n]), bad.o)
			checkEdits(t, s, spoiled, "", n, bad.e)
			checkEdits(t, s, append(spoiled, api.Op{Kind: 9, P: steps(place(-2))}), "", n, bad.e)
		}
	}
	// Each on what the one ahead of it has made, not on s.
	checkEdits(t, s, []api.Op{l[1], l[0]}, "", 0, api.ErrNone)
	checkEdits(t, s, []api.Op{l[0], l[0]}, "", 1, api.ErrThere)
	checkEdits(t, s, []api.Op{l[3], l[3], l[3]}, "", 2, api.ErrNone)
}

func TestEditsWithoutUpdates(t *testing.T) {
	for _, s := range []string{"1", " # n\n[1 , ]", `{"a"=0x1}`, sized("1", 20000)} {
		checkEdits(t, s, nil, s, 0, api.OK)
		checkEdits(t, s, []api.Op{}, s, 0, api.OK)
	}
}

// TestEditsMayNotPassThrough what is too large, even if what stands behind would make it small again.
func TestEditsMayNotPassThrough(t *testing.T) {
	add, drop := api.Op{Kind: api.UAdd, P: steps(place(0)), V: whole(7)}, api.Op{Kind: api.UDrop, P: steps(place(0))}
	s := sized("[7, 1]", 20000)
	checkEdits(t, s, []api.Op{drop, {Kind: api.USet, P: steps(place(0)), V: whole(345)}}, "[ 345]"+s[6:], 0, api.OK)
	checkEdits(t, s, []api.Op{add, drop}, "", 0, api.ErrLarge)
	checkEdits(t, s[:19997], []api.Op{add, add, drop}, "", 1, api.ErrLarge)
}

func TestEditsOfMadeDocuments(t *testing.T) {
	m := newMaker(162)
	good := 0
	for i := range 2000 {
		s := m.document(2 + i%3)
		var l []api.Op
		for here := s; len(l) < i%9; {
			o := m.update(means(t, here))
			_, made, _, e := modelEdit(here, o)
			if e != api.OK && m.IntN(8) != 0 {
				continue
			}
			l = append(l, o)
			if e == api.OK {
				here = made
			}
		}
		want, at, e := modelEdits(s, l)
		checkEdits(t, s, l, want, at, e)
		stopIfFailed(t)
		wantValue, wantAt, wantErr := upd.All(means(t, s), l)
		if at != wantAt || e != wantErr {
			t.Errorf("updates of %q end at %d with %d, of its value at %d with %d", s, at, e, wantAt, wantErr)
		}
		if e == api.OK {
			good++
			if !same(means(t, want), wantValue) {
				t.Errorf("%q does not mean %s", want, brief(wantValue))
			}
		}
	}
	if good < 500 {
		t.Errorf("%d lists of updates were done only", good)
	}
}

// P1: what has no end is told as what it is, or is not looked at.

func TestEndlessValues(t *testing.T) {
	elements := make([]api.Value, 2)
	elements[0] = list(elements...)
	for _, c := range []struct {
		o    api.Op
		want api.Errno
	}{
		{api.Op{Kind: api.USet}, api.ErrDeep}, {api.Op{Kind: api.UAdd, P: steps(key("b"))}, api.ErrDeep}, {api.Op{}, api.ErrArg},
		{api.Op{Kind: api.UDrop, P: steps(key("a"))}, api.OK}, {api.Op{Kind: api.UName, P: steps(key("a")), Key: "b"}, api.OK}, {api.Op{Kind: api.UDrop, P: steps(key("b"))}, api.ErrNone},
	} {
		want, wantText, _, _ := modelEdit("{a: 1}", c.o)
		c.o.V = elements[0]
		if c.want != api.OK {
			want, wantText = nil, ""
		}
		if got, at, e := edit.Edit("{a: 1}", c.o); !slices.Equal(got, want) || at != 0 || e != c.want {
			t.Errorf("of Kind %d with what has no end there is %v, %d and %d", c.o.Kind, got, at, e)
		}
		if made, at, e := edit.Edits("{a: 1}", []api.Op{c.o}); made != wantText || at != 0 || e != c.want {
			t.Errorf("of Kind %d with what has no end there is %q, %d and %d", c.o.Kind, made, at, e)
		}
	}
}

// P2: nothing that is handed in is changed or kept, and answers are new memory.

func TestNothingIsChangedOrShared(t *testing.T) {
	m := newMaker(2)
	for i := range 2000 {
		s := m.document(2 + i%3)
		o := m.update(means(t, s))
		room := append(slices.Clone(o.P), key("behind"))
		o.P = room[:len(o.P)]
		was, way := val.Copy(o.V), slices.Clone(room)
		l := []api.Op{o, {Kind: 77}}[:1]
		c, _, _ := edit.Edit(s, o)
		edit.Edits(s, l)
		if !same(o.V, was) || !slices.Equal(room, way) || l[:2][1].Kind != 77 || !slices.Equal(l[0].P, way[:len(o.P)]) {
			t.Fatalf("an update of %q by %s has changed what was handed in", s, brief(o))
		}
		want := slices.Clone(c)
		for k := range c[:cap(c)] {
			c[:cap(c)][k] = put("scribble")
		}
		if again, _, _ := edit.Edit(s, o); !slices.Equal(again, want) {
			t.Fatalf("what %s makes of %q hangs on what was answered", brief(o), s)
		}
	}
}
