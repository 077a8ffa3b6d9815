package tree_test

import (
	"fmt"
	"math/rand/v2"
	"regexp"
	"strings"

	"typecase/api"
	"typecase/tok"
)

// The reference of these tests: the solid tokens as letters, the document's words about what is written as patterns over them.

// letters of a text's solid tokens (`w` is a word or a text, `!` what is bad, a mark stands for itself), and the places of these tokens.
func letters(s string) (string, []int) {
	tokens, _ := tok.Cut(s)
	var b strings.Builder
	var places []int
	for _, t := range tokens {
		switch t.Kind {
		case api.KWord, api.KText:
			b.WriteByte('w')
		case api.KMark:
			b.WriteByte(s[t.At])
		case api.KBad:
			b.WriteByte('!')
		default:
			continue
		}
		places = append(places, t.At)
	}
	return b.String(), places
}

// whole: a table or a list with nothing open in it, where `v` is one that was taken together.
var whole = regexp.MustCompile(`\{(?:w[:=][wv](?:,w[:=][wv])*,?)?\}|\[(?:[wv](?:,[wv])*,?)?\]`)

// isDocument: do these letters come down to one value, when table by table and list by list is taken together?
func isDocument(letters string) bool {
	for {
		shorter := whole.ReplaceAllString(letters, "v")
		if shorter == letters {
			return letters == "w" || letters == "v"
		}
		letters = shorter
	}
}

// open marks that have not been closed, in order.
func open(letters string) string {
	left := ""
	for _, c := range letters {
		switch {
		case c == '{' || c == '[':
			left += string(c)
		case (c == '}' || c == ']') && left != "":
			left = left[:len(left)-1]
		}
	}
	return left
}

// goesOn: can a document begin with these letters? If one can, the shortest is made by what is missing of a value or an entry, and by closing what is open.
func goesOn(letters string) bool {
	closing := ""
	for _, c := range open(letters) {
		closing = string(c+2) + closing // in ASCII each closing mark is the second behind the one that opens
	}
	return isDocument(letters+closing) || isDocument(letters+"w"+closing) || isDocument(letters+":w"+closing)
}

// beginsValue: is the last of these letters, with which a document can begin, the first of a value?
func beginsValue(letters string) bool {
	ahead, last := letters[:len(letters)-1], letters[len(letters)-1]
	isKey := strings.HasSuffix(open(ahead), "{") && (strings.HasSuffix(ahead, "{") || strings.HasSuffix(ahead, ","))
	return last == '{' || last == '[' || last == 'w' && !isKey
}

// modelFault by P81's words: what Parse tells beside the node.
func modelFault(s string) (int, api.Errno) {
	if len(s) > 20000 {
		return 0, api.ErrLarge
	}
	l, places := letters(s)
	for i := range places {
		if !goesOn(l[:i+1]) {
			return places[i], api.ErrForm
		}
		if beginsValue(l[:i+1]) && len(open(l[:i])) >= 20 {
			return places[i], api.ErrDeep
		}
	}
	if !isDocument(l) {
		return len(s), api.ErrForm
	}
	return 0, api.OK
}

// told node, with the bytes of its tokens: its kind, and its Kids in parentheses.
func told(s string, n api.Node) string {
	tokens, _ := tok.Cut(s)
	return toldOf(s, tokens, n)
}

func toldOf(s string, tokens []api.Token, n api.Node) string {
	if n.At < 0 || n.At >= n.End || n.End > len(tokens) {
		return fmt.Sprintf("%d from %d to %d of %d tokens", n.Kind, n.At, n.End, len(tokens))
	}
	var kids []string
	for _, k := range n.Kids {
		kids = append(kids, toldOf(s, tokens, k))
	}
	return fmt.Sprintf("%d%q(%s)", n.Kind, s[tokens[n.At].At:tokens[n.End-1].End], strings.Join(kids, " "))
}

// wrongAt: what in a node is not as P81 says, by what its tokens are; the empty text, if nothing is.
func wrongAt(s string, n api.Node) string {
	tokens, _ := tok.Cut(s)
	if n.Kind != api.NDoc || n.At != 0 || n.End != len(tokens) || len(n.Kids) != 1 {
		return "the document"
	}
	return wrongWithin(s, tokens, n)
}

// insides of a node, by its kind: the kinds of its Kids, and its solid tokens that are none of theirs, as letters, in order.
var insides = []struct {
	kind int
	form *regexp.Regexp
}{
	{api.NLeaf, regexp.MustCompile(`\Aw\z`)},
	{api.NKey, regexp.MustCompile(`\Aw\z`)},
	{api.NTable, regexp.MustCompile(`\A\{(?:4(?:,4)*,?)?\}\z`)},
	{api.NEntry, regexp.MustCompile(`\A2[:=][135]\z`)},
	{api.NList, regexp.MustCompile(`\A\[(?:[135](?:,[135])*,?)?\]\z`)},
	{api.NDoc, regexp.MustCompile(`\A[135]\z`)},
}

func wrongWithin(s string, tokens []api.Token, n api.Node) string {
	at, inside := n.At, ""
	for _, k := range n.Kids {
		if k.At < at || k.End <= k.At || k.End > n.End {
			return fmt.Sprintf("the tokens of %v", n)
		}
		inside += lettersBetween(s, tokens, at, k.At) + fmt.Sprint(k.Kind)
		at = k.End
		if w := wrongWithin(s, tokens, k); w != "" {
			return w
		}
	}
	inside += lettersBetween(s, tokens, at, n.End)
	if n.Kind != api.NDoc && (!tok.Solid(tokens[n.At].Kind) || !tok.Solid(tokens[n.End-1].Kind)) {
		return fmt.Sprintf("the ends of %v", n)
	}
	for _, i := range insides {
		if i.kind == n.Kind && i.form.MatchString(inside) {
			return ""
		}
	}
	return fmt.Sprintf("%q inside %v", inside, n)
}

// lettersBetween two numbers of tokens.
func lettersBetween(s string, tokens []api.Token, from, to int) string {
	if from == to {
		return ""
	}
	l, _ := letters(s[tokens[from].At:tokens[to-1].End])
	return l
}

// writer of documents whose nodes are known, as they are written token by token.
type writer struct {
	*rand.Rand
	text  strings.Builder
	count int
}

func newWriter(seed uint64) *writer {
	return &writer{Rand: rand.New(rand.NewPCG(8, seed))}
}

// put one token.
func (w *writer) put(token string) {
	w.text.WriteString(token)
	w.count++
}

// gap of tokens that are not solid, or of none; no two of them together would be one.
func (w *writer) gap() {
	for range w.IntN(3) {
		w.put([]string{"\n", "/* ] */", "/**/"}[w.IntN(3)])
		if w.IntN(2) == 0 {
			w.put([]string{" ", "\t", "\r", " \t "}[w.IntN(4)])
		}
		if w.IntN(3) == 0 {
			w.put("# {")
			w.put("\n")
		}
	}
}

// pick one of these as a token.
func (w *writer) pick(tokens ...string) {
	w.put(tokens[w.IntN(len(tokens))])
}

func (w *writer) one(kind int) api.Node {
	w.pick("a", "1", "-1.5e+3", `""`, `"a"`, `"},"`, `"\""`, "null", "_")
	return api.Node{Kind: kind, At: w.count - 1, End: w.count}
}

// value with at most so many tables and lists in one another.
func (w *writer) value(deep int) api.Node {
	kind := w.IntN(4)
	if deep == 0 || kind > 1 {
		return w.one(api.NLeaf)
	}
	n := api.Node{Kind: []int{api.NTable, api.NList}[kind], At: w.count}
	w.put([]string{"{", "["}[kind])
	w.gap()
	kids := w.IntN(4)
	for i := range kids {
		n.Kids = append(n.Kids, w.kid(n.Kind, deep-1))
		w.gap()
		if i < kids-1 || w.IntN(2) == 0 {
			w.put(",")
			w.gap()
		}
	}
	w.put([]string{"}", "]"}[kind])
	n.End = w.count
	return n
}

func (w *writer) kid(kind, deep int) api.Node {
	if kind == api.NList {
		return w.value(deep)
	}
	n := api.Node{Kind: api.NEntry, At: w.count}
	key := w.one(api.NKey)
	w.gap()
	w.pick(":", "=")
	w.gap()
	n.Kids = []api.Node{key, w.value(deep)}
	n.End = w.count
	return n
}

// document, and its node.
func (w *writer) document(deep int) (string, api.Node) {
	w.gap()
	value := w.value(deep)
	w.gap()
	return w.text.String(), api.Node{Kind: api.NDoc, End: w.count, Kids: []api.Node{value}}
}

// pieces of which mixed texts are made.
func pieces() []string {
	return []string{"{", "}", "[", "]", ":", "=", ",", "{", "}", "[", "]", ",", "a", `"b"`, "1", " ", " ", "\n", "# ]\n", "/*}*/", "a:", "a=b", "a:1,", "[]", "{}", "[1,", "],", "},", "!", `"`, "/", "\xff", "é"}
}

// mixed texts of these pieces; the same ones in each run.
func mixed(pieces []string, count int) []string {
	source := rand.New(rand.NewPCG(8, 80))
	var l []string
	for i := range count {
		var b strings.Builder
		for range source.IntN(2 + i%20) {
			b.WriteString(pieces[source.IntN(len(pieces))])
		}
		l = append(l, b.String())
	}
	return l
}

// eachText of up to length signs.
func eachText(signs []string, length int) []string {
	all := []string{""}
	last := all
	for range length {
		var longer []string
		for _, s := range last {
			for _, c := range signs {
				longer = append(longer, s+c)
			}
		}
		all = append(all, longer...)
		last = longer
	}
	return all
}
