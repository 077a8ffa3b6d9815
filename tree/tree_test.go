package tree_test

import (
	"math"
	"reflect"
	"slices"
	"strings"
	"testing"

	"typecase/api"
	"typecase/tok"
	"typecase/tree"
)

// P80 and P81: what is written, and its nodes.

// checkParse against the model.
func checkParse(t *testing.T, s string) {
	t.Helper()
	wantAt, wantErr := modelFault(s)
	n, at, e := tree.Parse(s)
	if at != wantAt || e != wantErr {
		t.Errorf("Parse(%.200q) tells %d, %d, not %d, %d", s, at, e, wantAt, wantErr)
		return
	}
	if e != api.OK {
		if !reflect.DeepEqual(n, api.Node{}) {
			t.Errorf("Parse(%.200q) tells %d, %d and %v", s, at, e, n)
		}
	} else if wrong := wrongAt(s, n); wrong != "" {
		t.Errorf("Parse(%.200q) is %v: wrong is %s", s, n, wrong)
	}
}

// checkNodes of a document: is it told so, each node with its source?
func checkNodes(t *testing.T, s, want string) {
	t.Helper()
	n, at, e := tree.Parse(s)
	if got := told(s, n); got != want || at != 0 || e != api.OK {
		t.Errorf("Parse(%.200q) is %s, %d, %d, not %s", s, got, at, e, want)
	}
}

// checkFault: does Parse refuse it at this place?
func checkFault(t *testing.T, s string, wantAt int, want api.Errno) {
	t.Helper()
	if n, at, e := tree.Parse(s); !reflect.DeepEqual(n, api.Node{}) || at != wantAt || e != want {
		t.Errorf("Parse(%.200q) is %v, %d, %d, not at %d, %d", s, n, at, e, wantAt, want)
	}
}

func TestParseLeaves(t *testing.T) {
	for _, s := range []string{"1", "a", "null", "-", `""`, `"a b"`, `"{"`, "..."} {
		quoted := told(s, api.Node{Kind: api.NLeaf, End: 1})
		checkNodes(t, s, "6"+quoted[1:len(quoted)-1]+quoted+")")
		if n, _, _ := tree.Parse(s); len(n.Kids) != 1 || len(n.Kids[0].Kids) > 0 {
			t.Errorf("Parse(%q) is %v", s, n)
		}
	}
	checkNodes(t, " a ", `6" a "(1"a"())`)
	checkNodes(t, "# x\n\"y\"", `6"# x\n\"y\""(1"\"y\""())`)
	checkNodes(t, "a # x", `6"a # x"(1"a"())`)
	checkNodes(t, "/**/a/**/", `6"/**/a/**/"(1"a"())`)
}

func TestParseTables(t *testing.T) {
	checkNodes(t, "{}", `6"{}"(3"{}"())`)
	checkNodes(t, " { } ", `6" { } "(3"{ }"())`)
	checkNodes(t, "{a:1}", `6"{a:1}"(3"{a:1}"(4"a:1"(2"a"() 1"1"())))`)
	checkNodes(t, "{a=1}", `6"{a=1}"(3"{a=1}"(4"a=1"(2"a"() 1"1"())))`)
	checkNodes(t, "{a:1,}", `6"{a:1,}"(3"{a:1,}"(4"a:1"(2"a"() 1"1"())))`)
	checkNodes(t, `{"a" : "b" , c = d}`, `6"{\"a\" : \"b\" , c = d}"(3"{\"a\" : \"b\" , c = d}"(4"\"a\" : \"b\""(2"\"a\""() 1"\"b\""()) 4"c = d"(2"c"() 1"d"())))`)
	checkNodes(t, "{a:{}}", `6"{a:{}}"(3"{a:{}}"(4"a:{}"(2"a"() 3"{}"())))`)
	checkNodes(t, "{a:1,a:1}", `6"{a:1,a:1}"(3"{a:1,a:1}"(4"a:1"(2"a"() 1"1"()) 4"a:1"(2"a"() 1"1"())))`)
	checkNodes(t, "{1:1}", `6"{1:1}"(3"{1:1}"(4"1:1"(2"1"() 1"1"())))`)
}

func TestParseLists(t *testing.T) {
	checkNodes(t, "[]", `6"[]"(5"[]"())`)
	checkNodes(t, "[ # x\n]", `6"[ # x\n]"(5"[ # x\n]"())`)
	checkNodes(t, "[1]", `6"[1]"(5"[1]"(1"1"()))`)
	checkNodes(t, "[1,]", `6"[1,]"(5"[1,]"(1"1"()))`)
	checkNodes(t, "[1 , 2]", `6"[1 , 2]"(5"[1 , 2]"(1"1"() 1"2"()))`)
	checkNodes(t, "[[],[],]", `6"[[],[],]"(5"[[],[],]"(5"[]"() 5"[]"()))`)
	checkNodes(t, "[1, [], {a = b,},]", `6"[1, [], {a = b,},]"(5"[1, [], {a = b,},]"(1"1"() 5"[]"() 3"{a = b,}"(4"a = b"(2"a"() 1"b"()))))`)
}

func TestParseNumbersOfTokens(t *testing.T) {
	n, at, e := tree.Parse(" {a /**/:[1 ] } ")
	leaf := api.Node{Kind: api.NLeaf, At: 7, End: 8}
	list := api.Node{Kind: api.NList, At: 6, End: 10, Kids: []api.Node{leaf}}
	entry := api.Node{Kind: api.NEntry, At: 2, End: 10, Kids: []api.Node{{Kind: api.NKey, At: 2, End: 3}, list}}
	table := api.Node{Kind: api.NTable, At: 1, End: 12, Kids: []api.Node{entry}}
	want := api.Node{Kind: api.NDoc, At: 0, End: 13, Kids: []api.Node{table}}
	if !reflect.DeepEqual(n, want) || at != 0 || e != api.OK {
		t.Errorf("it is %v, %d, %d, not %v", n, at, e, want)
	}
}

func TestParseRefusesTokens(t *testing.T) {
	for s, at := range map[string]int{
		"]": 0, "}": 0, ":": 0, "=": 0, ",": 0, "!": 0, "\xff": 0, `"a`: 0, "/": 0, " ,": 1, "# a\n/*": 4, "é": 0,
		"a b": 2, "1]": 1, "a,": 1, "a:1": 1, "a=": 1, "{}{}": 2, "[][]": 2, "[] ,": 3, "{}}": 2, "[]]": 2, "a\n\n\"b\"": 3, "[]!": 2,
		"[,]": 1, "[1,,]": 3, "[1 2]": 3, "[1}": 2, "[1:": 2, "[a=": 2, "[[]{": 3, "[:": 1, "[}": 1, "[!": 1, "[1,}": 3, "[1!": 2, "[a\"b": 2, "[1,:": 3,
		"{,}": 1, "{:1}": 1, "{a}": 2, "{a,": 2, "{a b": 3, "{a]": 2, "{a:}": 3, "{a:,": 3, "{a::": 3, "{a:=": 3, "{a:]": 3, "{a:1 b:2}": 5, "{a:1:": 4, "{a:1]": 4, "{a:1,,": 5, "{a:1,]": 5, "{a:1,=": 5,
		"{[1]:2}": 1, "{{": 1, "{]": 1, "{!": 1, "{a!": 2, "{a:!": 3, "{a:1!": 4, "{a:1,!": 5, "{a:1,[": 5, "{a:1,{": 5, "{a[": 2, "{a{": 2, "{a:b c": 5, "{a:b=": 4, "{a=b{": 4, "{a=[]=": 5,
	} {
		checkFault(t, s, at, api.ErrForm)
		checkFault(t, s+" ] ! \n", at, api.ErrForm)
		checkParse(t, s)
	}
}

func TestParseRefusesTheEnd(t *testing.T) {
	for _, s := range []string{"", " ", "\n", "# a", "/* a */ ", "{", "[", "{a", "{a:", "{a=", "{a:1", "{a:1,", "[1", "[1,", "[[]", "[{}", "{a:[]", "{a:{}", `{"a"`, "[[[", "{a:[{b=[", "[ # ]", "{ /* } */"} {
		checkFault(t, s, len(s), api.ErrForm)
		checkFault(t, s+" ", len(s)+1, api.ErrForm)
		checkFault(t, s+"\n# }]", len(s)+5, api.ErrForm)
		checkParse(t, s)
	}
}

// nested lists, or tables, in one another, around what is within them.
func nested(lists int, within string) string {
	return strings.Repeat("[", lists) + within + strings.Repeat("]", lists)
}

func TestParseDeepValues(t *testing.T) {
	for _, s := range []string{nested(19, "1"), nested(20, ""), nested(19, "{}"), nested(19, "[],[],{},1,"), nested(18, "{a:1}"), nested(18, "{a:{}}"), nested(10, "1,"+nested(9, "2"))} {
		checkParse(t, s)
		if _, at, e := tree.Parse(s); at != 0 || e != api.OK {
			t.Errorf("Parse(%q) tells %d, %d", s, at, e)
		}
	}
	for within, at := range map[string]int{"1": 20, `"a"`: 20, "[]": 20, "{}": 20, "[": 20, "{": 20, " a": 21, "\n[": 21, "1!": 20, "[!": 20, "{!": 20} {
		checkFault(t, nested(20, within), at, api.ErrDeep)
		checkFault(t, strings.Repeat("[", 20)+within, at, api.ErrDeep)
		checkParse(t, nested(20, within))
	}
	for within, at := range map[string]int{"}": 20, ",": 20, ":": 20, "!": 20, "=": 20, " !": 21, "/": 20, "": 20, " ": 21} {
		checkFault(t, strings.Repeat("[", 20)+within, at, api.ErrForm)
	}
}

func TestParseDeepTables(t *testing.T) {
	tables := strings.Repeat("{a:", 19)
	closing := strings.Repeat("}", 19)
	for _, s := range []string{tables + "1" + closing, tables + "{}" + closing, tables + "[]" + closing, tables + "[" + "]" + ",b=1" + closing} {
		checkParse(t, s)
		if _, at, e := tree.Parse(s); at != 0 || e != api.OK {
			t.Errorf("Parse(%q) tells %d, %d", s, at, e)
		}
	}
	// A key is no value: that it is within twenty is told at what stands behind it.
	for within, c := range map[string]struct {
		at int
		e  api.Errno
	}{
		"{a:1}": {3, api.ErrDeep}, "{a=[]}": {3, api.ErrDeep}, "{a:{": {3, api.ErrDeep}, "{a : b": {5, api.ErrDeep}, `{"a":"b"`: {5, api.ErrDeep}, "[a": {1, api.ErrDeep}, "[{": {1, api.ErrDeep},
		"{a:}": {3, api.ErrForm}, "{a:!": {3, api.ErrForm}, "{a}": {2, api.ErrForm}, "{a b": {3, api.ErrForm}, "{{": {1, api.ErrForm}, "{[": {1, api.ErrForm}, "{a": {2, api.ErrForm}, "{a:": {3, api.ErrForm}, "{": {1, api.ErrForm}, "{:": {1, api.ErrForm},
	} {
		checkFault(t, tables+within, len(tables)+c.at, c.e)
		checkParse(t, tables+within)
	}
}

func TestParseTellsTheFirstFault(t *testing.T) {
	deep := nested(21, "")
	checkFault(t, "[! "+deep, 1, api.ErrForm)
	checkFault(t, deep+"!", 20, api.ErrDeep)
	checkFault(t, "1 "+deep, 2, api.ErrForm)
	checkFault(t, "{a:"+nested(19, "")+","+deep, 42, api.ErrForm)
	checkFault(t, nested(20, "")+nested(20, ""), 40, api.ErrForm)
	// What was closed does not count any more.
	checkParse(t, "["+strings.Repeat(nested(19, "")+",", 30)+"]")
	checkParse(t, "["+strings.Repeat(nested(19, "")+",", 30)+nested(20, "")+"]")
	checkParse(t, "["+strings.Repeat("{a:1},[],", 30)+nested(18, "1")+"]")
}

func TestParseEachShortText(t *testing.T) {
	for _, c := range []struct {
		signs  []string
		length int
	}{
		{[]string{"{", "}", "[", "]", ":", "=", ",", "a ", `"b"`, "\n", "!"}, 4},
		{[]string{"{", "}", "[", "]", ":", ",", "a "}, 5},
		{[]string{"[", "]", ",", "a "}, 7},
		{[]string{"{", "}", "a", "=", ","}, 6},
	} {
		for _, s := range eachText(c.signs, c.length) {
			checkParse(t, s)
			checkParse(t, "{a:"+s)
		}
	}
}

func TestParseMixedTexts(t *testing.T) {
	for _, s := range mixed(pieces(), 12000) {
		checkParse(t, s)
		checkParse(t, "["+s)
		checkParse(t, strings.Repeat("[", 18)+s)
	}
}

func TestParseWrittenDocuments(t *testing.T) {
	for i := range 5000 {
		s, want := newWriter(uint64(i)).document(i % 20)
		if len(s) > 20000 {
			continue
		}
		n, at, e := tree.Parse(s)
		if !same(n, want) || at != 0 || e != api.OK {
			t.Fatalf("Parse(%q) is %v, %d, %d, not %v", s, n, at, e, want)
		}
	}
}

// same nodes, whether lists that have nothing in them are nil or empty?
func same(a, b api.Node) bool {
	return a.Kind == b.Kind && a.At == b.At && a.End == b.End && slices.EqualFunc(a.Kids, b.Kids, same)
}

func TestParseWrittenDocumentsWithAFault(t *testing.T) {
	for i := range 300 {
		s, _ := newWriter(uint64(i)).document(i % 5)
		if len(s) > 200 {
			continue
		}
		tokens, _ := tok.Cut(s)
		for k, c := range tokens {
			checkParse(t, s[:c.At])
			checkParse(t, s[:c.At]+s[c.End:])
			checkParse(t, s[:c.At]+s[c.At:c.End]+s[c.At:])
			checkParse(t, s[:c.At]+[]string{"!", ",", "}", "]", "{", "[", ":", "a", " "}[(i+k)%9]+s[c.End:])
		}
	}
}

func TestParseUpToTheBound(t *testing.T) {
	for s, kids := range map[string]int{
		"[" + strings.Repeat("1,", 9999) + "]":               9999,
		"[" + strings.Repeat("[],", 6666) + "]":              6666,
		"{" + strings.Repeat("a:1,", 4999) + "  }":           4999,
		"{" + strings.Repeat("a:1,", 4999) + "b}":            -1,
		"[" + strings.Repeat(" ", 19998) + "]":               0,
		strings.Repeat("[", 19) + strings.Repeat(" ", 19981): -1,
		strings.Repeat("\n", 19998) + "[]":                   0,
		`"` + strings.Repeat("a", 19998) + `"`:               0,
		"[" + strings.Repeat(nested(18, "1")+",", 526) + "]": 526,
		"[" + strings.Repeat("{}\n,", 4999) + "]":            4999,
	} {
		n, at, e := tree.Parse(s)
		switch {
		case len(s) > 20000:
			t.Errorf("%.20q has %d bytes", s, len(s))
		case kids < 0 && (e != api.ErrForm || at < 19997):
			t.Errorf("Parse of %d bytes %.20q tells %d, %d", len(s), s, at, e)
		case kids >= 0 && (e != api.OK || len(n.Kids) != 1 || len(n.Kids[0].Kids) != kids):
			t.Errorf("Parse of %d bytes %.20q is a node of %d, %d, %d", len(s), s, len(n.Kids), at, e)
		}
	}
}

func TestParseRefusesLargeTexts(t *testing.T) {
	for _, s := range []string{" ", "1", "[", "]", "!", "{a:1}", "\n[", "[1,"} {
		for _, size := range []int{20001, 20002, 40000, 1000000} {
			checkFault(t, strings.Repeat(s, size/len(s)+1)[:size], 0, api.ErrLarge)
		}
	}
	checkFault(t, "1"+strings.Repeat(" ", 20000), 0, api.ErrLarge)
	if _, at, e := tree.Parse("1" + strings.Repeat(" ", 19999)); at != 0 || e != api.OK {
		t.Errorf("20000 bytes are refused: %d, %d", at, e)
	}
}

// spoil a node, and all below it, the room behind its lists included.
func spoil(n *api.Node) {
	kids := n.Kids[:cap(n.Kids)]
	for i := range kids {
		spoil(&kids[i])
	}
	*n = api.Node{Kind: -1, At: -1, End: -1}
}

func TestParseAnswersNewMemory(t *testing.T) {
	s := "[[], {a: [1, 2], b: {}}, 3, {c: {d: 1}}, [4, 5, 6]]"
	first, _, _ := tree.Parse(s)
	want, _, _ := tree.Parse(s)
	// If two lists of the answer shared memory, to spoil one would show in the other.
	parts := slices.Clone(first.Kids[0].Kids)
	for i := range parts {
		spoil(&parts[i])
		for k := i + 1; k < len(parts); k++ {
			if !same(parts[k], want.Kids[0].Kids[k]) {
				t.Errorf("value %d is changed with value %d", k, i)
			}
		}
	}
	spoil(&first)
	if n, at, e := tree.Parse(s); !same(n, want) || at != 0 || e != api.OK {
		t.Errorf("parsed a second time it is %v, %d, %d", n, at, e)
	}
}

// P82: the source of a node.

// checkSource by the text's tokens.
func checkSource(t *testing.T, s string, n api.Node, want string) {
	t.Helper()
	if got := tree.Source(s, n); got != want {
		t.Errorf("Source(%.200q, %v) is %.200q, not %.200q", s, n, got, want)
	}
}

func TestSourceOfNodes(t *testing.T) {
	s := " {a : [1 ,/* x */ 2,] ,\"b\"= c} # y\n"
	n, _, _ := tree.Parse(s)
	table := n.Kids[0]
	checkSource(t, s, n, s)
	checkSource(t, s, table, "{a : [1 ,/* x */ 2,] ,\"b\"= c}")
	checkSource(t, s, table.Kids[0], "a : [1 ,/* x */ 2,]")
	checkSource(t, s, table.Kids[0].Kids[0], "a")
	checkSource(t, s, table.Kids[0].Kids[1], "[1 ,/* x */ 2,]")
	checkSource(t, s, table.Kids[0].Kids[1].Kids[1], "2")
	checkSource(t, s, table.Kids[1], `"b"= c`)
	checkSource(t, s, table.Kids[1].Kids[0], `"b"`)
}

func TestSourceOfAnyTokens(t *testing.T) {
	for _, s := range append(mixed(pieces(), 300), "", "a", "]] a", " \n ", "\"", "[1, {a = b,},]") {
		tokens, _ := tok.Cut(s)
		for at := -2; at <= len(tokens)+2; at++ {
			for end := -2; end <= len(tokens)+2; end++ {
				want := ""
				if at >= 0 && end <= len(tokens) {
					for number := at; number < end; number++ {
						want += s[tokens[number].At:tokens[number].End]
					}
				}
				// Neither its Kind nor its Kids are asked.
				checkSource(t, s, api.Node{At: at, End: end}, want)
				checkSource(t, s, api.Node{Kind: 99, At: at, End: end, Kids: []api.Node{{At: 1, End: 2}, {At: -5, End: 70}}}, want)
			}
		}
	}
}

func TestSourceOfWrongTokens(t *testing.T) {
	for _, at := range []int{math.MinInt, -1, 0, 1, 2, 3, 4, 5, math.MaxInt} {
		for _, end := range []int{math.MinInt, math.MinInt + 1, -1, 0, 5, 99, math.MaxInt - 1, math.MaxInt} {
			checkSource(t, "{a:1", api.Node{Kind: api.NLeaf, At: at, End: end}, "")
		}
	}
	checkSource(t, "", api.Node{}, "")
	checkSource(t, "", api.Node{End: 1}, "")
	checkSource(t, "a", api.Node{}, "")
}

func TestSourceUpToTheBound(t *testing.T) {
	for _, size := range []int{19999, 20000} {
		s := strings.Repeat(",", size)
		checkSource(t, s, api.Node{At: 0, End: size}, s)
		checkSource(t, s, api.Node{At: size - 1, End: size}, ",")
		checkSource(t, s, api.Node{At: 0, End: size + 1}, "")
	}
	for _, size := range []int{20001, 40000} {
		s := strings.Repeat(",", size)
		checkSource(t, s, api.Node{At: 0, End: 1}, "")
		checkSource(t, s, api.Node{At: 0, End: size}, "")
	}
}

func TestSourceLeavesTheNode(t *testing.T) {
	s := "[1, 2]"
	n, _, _ := tree.Parse(s)
	want, _, _ := tree.Parse(s)
	tree.Source(s, n)
	if !same(n, want) {
		t.Errorf("it is %v behind Source, not %v", n, want)
	}
}
