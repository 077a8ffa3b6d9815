package edit

import (
	"slices"

	"typecase/api"
	"typecase/esc"
	"typecase/path"
	"typecase/tok"
	"typecase/tree"
)

// document: a text that means something, and what stands where in it.
type document struct {
	s      string
	tokens []api.Token
	root   api.Node
}

// newDocument of a text that mean.Mean takes: so it can be parsed and cut.
func newDocument(s string) *document {
	all, _, _ := tree.Parse(s)
	tokens, _ := tok.Cut(s)
	return &document{s: s, tokens: tokens, root: all.Kids[0]}
}

// thing that a path leads to: the entry, or the element; without a step the document's value. It is there: path.Get has taken the path.
func (d *document) thing(p []api.Step) api.Node {
	here := d.root
	for _, step := range p {
		here = d.kid(valueOf(here), step)
	}
	return here
}

func (d *document) kid(n api.Node, step api.Step) api.Node {
	if step.I != path.OfKey {
		return n.Kids[step.I]
	}
	at := slices.IndexFunc(n.Kids, func(entry api.Node) bool { return d.says(keyOf(entry)) == step.Key })
	return n.Kids[at]
}

// says: what a key says, however it is written.
func (d *document) says(n api.Node) string {
	source := d.s[d.from(n):d.end(n)]
	if d.tokens[n.At].Kind == api.KText {
		said, _, _ := esc.Unquote(source)
		return said
	}
	return source
}

func keyOf(entry api.Node) api.Node { return entry.Kids[0] }

func valueOf(thing api.Node) api.Node {
	if thing.Kind == api.NEntry {
		return thing.Kids[1]
	}
	return thing
}

// from: the place of a node's first byte.
func (d *document) from(n api.Node) int { return d.tokens[n.At].At }

// end: the place behind a node's last byte.
func (d *document) end(n api.Node) int { return d.tokens[n.End-1].End }

// commaBehind a thing: is the next solid token there one?
func (d *document) commaBehind(thing api.Node) (api.Token, bool) {
	for _, t := range d.tokens[thing.End:] {
		if tok.Solid(t.Kind) {
			return t, d.isComma(t)
		}
	}
	return api.Token{}, false
}

// commaAhead of a thing, likewise.
func (d *document) commaAhead(thing api.Node) (api.Token, bool) {
	for _, t := range slices.Backward(d.tokens[:thing.At]) {
		if tok.Solid(t.Kind) {
			return t, d.isComma(t)
		}
	}
	return api.Token{}, false
}

func (d *document) isComma(t api.Token) bool { return d.s[t.At:t.End] == comma }
