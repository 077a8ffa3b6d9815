package mean

import (
	"slices"
	"strings"

	"typecase/api"
	"typecase/esc"
)

// reader of a document's nodes, in the order in which they stand in its text. It leaves off at the first that is wrong.
type reader struct {
	s      string
	tokens []api.Token
	// place and err of what was wrong.
	place int
	err   api.Errno
}

// value of a leaf, a table or a list. Documents are not so deep that calls within calls would not do.
func (r *reader) value(n api.Node) (api.Value, bool) {
	switch n.Kind {
	case api.NTable:
		return r.table(n)
	case api.NList:
		return r.list(n)
	}
	return r.leaf(n)
}

func (r *reader) leaf(n api.Node) (api.Value, bool) {
	v, e := r.leafAlone(n)
	if e != api.OK {
		r.refuse(n, e)
		return api.Value{}, false
	}
	return v, true
}

// leafAlone: what it means, wherever it stands.
func (r *reader) leafAlone(n api.Node) (api.Value, api.Errno) {
	if r.isWord(n) {
		return Word(r.source(n))
	}
	said, _, e := esc.Unquote(r.source(n))
	return unlessWrong(api.Value{Kind: api.VText, S: said}, e)
}

func (r *reader) list(n api.Node) (api.Value, bool) {
	v := api.Value{Kind: api.VList}
	for _, kid := range n.Kids {
		part, ok := r.value(kid)
		if !ok {
			return api.Value{}, false
		}
		v.L = append(v.L, part)
	}
	return v, true
}

func (r *reader) table(n api.Node) (api.Value, bool) {
	v := api.Value{Kind: api.VTable}
	// A table may have thousands of entries: to look through those ahead at each of them would be slow.
	ahead := map[string]struct{}{}
	for _, kid := range n.Kids {
		key, ok := r.newKey(kid.Kids[0], ahead)
		if !ok {
			return api.Value{}, false
		}
		part, ok := r.value(kid.Kids[1])
		if !ok {
			return api.Value{}, false
		}
		v.E = append(v.E, api.Entry{Key: key, V: part})
	}
	slices.SortFunc(v.E, func(a, b api.Entry) int { return strings.Compare(a.Key, b.Key) })
	return v, true
}

// newKey that is none of those ahead in its table; it is added to them.
func (r *reader) newKey(n api.Node, ahead map[string]struct{}) (string, bool) {
	key, e := r.keyAlone(n)
	if e != api.OK {
		r.refuse(n, e)
		return "", false
	}
	if _, twice := ahead[key]; twice {
		r.refuse(n, api.ErrTwice)
		return "", false
	}
	ahead[key] = struct{}{}
	return key, true
}

// keyAlone: what it says, whatever else is in its table.
func (r *reader) keyAlone(n api.Node) (string, api.Errno) {
	source := r.source(n)
	if !r.isWord(n) {
		said, _, e := esc.Unquote(source)
		return said, e
	}
	if !esc.Bare(source) {
		return "", api.ErrForm
	}
	return source, api.OK
}

// isWord: is the token of a leaf or a key a word, and not a text between quotes?
func (r *reader) isWord(n api.Node) bool {
	return r.tokens[n.At].Kind == api.KWord
}

// source of a leaf or a key, which is of one token. (tree.Source would cut s anew for each.)
func (r *reader) source(n api.Node) string {
	token := r.tokens[n.At]
	return r.s[token.At:token.End]
}

// refuse a leaf or a key.
func (r *reader) refuse(n api.Node, e api.Errno) {
	r.place, r.err = r.tokens[n.At].At, e
}
