package tree

import (
	"typecase/api"
	"typecase/tok"
)

// reader of a text's tokens, from the front. It never goes back: the first token that it can't take is the one that is told.
type reader struct {
	s      string
	tokens []api.Token
	// next: the number of the next solid token, or how many tokens there are.
	next int
	// within: how many tables and lists are open.
	within int
	// place and err of what was refused.
	place int
	err   api.Errno
}

// newReader that stands ahead of the first solid token.
func newReader(s string, tokens []api.Token) *reader {
	r := &reader{s: s, tokens: tokens}
	r.goOnFrom(0)
	return r
}

// goOnFrom the token of this number to the first one that is solid.
func (r *reader) goOnFrom(number int) {
	for number < len(r.tokens) && !tok.Solid(r.tokens[number].Kind) {
		number++
	}
	r.next = number
}

// document: one value, and nothing solid behind it.
func (r *reader) document() (api.Node, bool) {
	value, ok := r.value()
	if !ok {
		return api.Node{}, false
	}
	if r.next < len(r.tokens) {
		return r.refuse(api.ErrForm)
	}
	return api.Node{Kind: api.NDoc, End: len(r.tokens), Kids: []api.Node{value}}, true
}

// value that begins with the next token.
func (r *reader) value() (api.Node, bool) {
	table, list := r.seesMark('{'), r.seesMark('[')
	if !table && !list && !r.seesOne() {
		return r.refuse(api.ErrForm)
	}
	if r.within == api.MaxDeep {
		return r.refuse(api.ErrDeep)
	}
	switch {
	case table:
		return r.between(api.NTable, '}', func() (api.Node, bool) { return r.entry() })
	case list:
		return r.between(api.NList, ']', func() (api.Node, bool) { return r.value() })
	}
	return r.one(api.NLeaf), true
}

// between two marks, of which the first is the next token: the kids that readKid reads, a `,` behind each, or behind each but the last.
func (r *reader) between(kind int, last byte, readKid func() (api.Node, bool)) (api.Node, bool) {
	n := api.Node{Kind: kind, At: r.take()}
	r.within++
	for !r.seesMark(last) {
		kid, ok := readKid()
		if !ok {
			return api.Node{}, false
		}
		n.Kids = append(n.Kids, kid)
		if r.seesMark(',') {
			r.take()
		} else if !r.seesMark(last) {
			return r.refuse(api.ErrForm)
		}
	}
	r.within--
	n.End = r.take() + 1
	return n, true
}

// entry of a table: its key, a mark, and its value.
func (r *reader) entry() (api.Node, bool) {
	if !r.seesOne() {
		return r.refuse(api.ErrForm)
	}
	key := r.one(api.NKey)
	if !r.seesMark(':') && !r.seesMark('=') {
		return r.refuse(api.ErrForm)
	}
	r.take()
	value, ok := r.value()
	if !ok {
		return api.Node{}, false
	}
	return api.Node{Kind: api.NEntry, At: key.At, End: value.End, Kids: []api.Node{key, value}}, true
}

// one token, the next one, as a node.
func (r *reader) one(kind int) api.Node {
	at := r.take()
	return api.Node{Kind: kind, At: at, End: at + 1}
}

// take the next token: its number.
func (r *reader) take() int {
	taken := r.next
	r.goOnFrom(taken + 1)
	return taken
}

// seesMark: is the next token this mark?
func (r *reader) seesMark(mark byte) bool {
	if r.next >= len(r.tokens) {
		return false
	}
	t := r.tokens[r.next]
	return t.Kind == api.KMark && r.s[t.At] == mark
}

// seesOne: is the next token one that is a leaf or a key by itself?
func (r *reader) seesOne() bool {
	if r.next >= len(r.tokens) {
		return false
	}
	kind := r.tokens[r.next].Kind
	return kind == api.KWord || kind == api.KText
}

// refuse the next token, or the end of the text if there is none.
func (r *reader) refuse(e api.Errno) (api.Node, bool) {
	r.place, r.err = len(r.s), e
	if r.next < len(r.tokens) {
		r.place = r.tokens[r.next].At
	}
	return api.Node{}, false
}
