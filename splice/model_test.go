package splice_test

import (
	"math"
	"math/rand/v2"
	"slices"
	"strings"

	"typecase/api"
)

// The reference of these tests: the document's words, by other means than the program's: byte by byte, each of which is known by where it came from.

type change = []api.Part

func keep(n int) api.Part { return api.Part{Kind: api.PKeep, N: n} }

func cut(n int) api.Part { return api.Part{Kind: api.PCut, N: n} }

func put(s string) api.Part { return api.Part{Kind: api.PPut, S: s} }

// parts: these, so many times over.
func parts(times int, l ...api.Part) change { return slices.Repeat(l, times) }

// x: so many of them.
func x(n int) string { return strings.Repeat("x", n) }

// cell: a byte, and which one of whose it is.
type cell struct {
	of byte
	at int
	is byte
}

// cells of a text.
func cells(of byte, s string) []cell {
	var l []cell
	for i := range len(s) {
		l = append(l, cell{of, i, s[i]})
	}
	return l
}

func textOf(l []cell) string {
	var b []byte
	for _, c := range l {
		b = append(b, c.is)
	}
	return string(b)
}

// changed cells: what a good change makes of them, if it goes over as many; what it puts is its own.
func changed(l []cell, c change, of byte) []cell {
	var made []cell
	count := 0
	for _, p := range c {
		switch p.Kind {
		case 1:
			made = append(made, l[:p.N]...)
		case 3:
			for i := range len(p.S) {
				made = append(made, cell{of, count, p.S[i]})
				count++
			}
		}
		l = l[p.N:]
	}
	return made
}

// between: the normal change that leads from these cells to those; what is in both stands in one order.
func between(from, to []cell) change {
	stays := map[cell]int{}
	for _, c := range append(slices.Clone(from), to...) {
		stays[c]++
	}
	var made change
	for len(from)+len(to) > 0 {
		var news []cell
		for len(to) > 0 && stays[to[0]] == 1 {
			news, to = append(news, to[0]), to[1:]
		}
		gone, kept := 0, 0
		for len(from) > 0 && stays[from[0]] == 1 {
			gone, from = gone+1, from[1:]
		}
		for len(from) > 0 && len(to) > 0 && from[0] == to[0] {
			kept, from, to = kept+1, from[1:], to[1:]
		}
		for _, p := range (change{put(textOf(news)), cut(gone), keep(kept)}) {
			if p.N+len(p.S) > 0 {
				made = append(made, p)
			}
		}
	}
	return made
}

// modelCheck by P150's words.
func modelCheck(c change) api.Errno {
	if len(c) > 400 {
		return api.ErrLarge
	}
	kept, gone, come := 0, 0, 0
	for _, p := range c {
		for _, rule := range []struct {
			broken bool
			e      api.Errno
		}{
			{!slices.Contains([]int{1, 2, 3}, p.Kind), api.ErrKind},
			{p.N < 0 || p.N > 20000 || p.Kind == 3 && p.N != 0, api.ErrArg},
			{len(p.S) > 20000, api.ErrLarge},
			{p.Kind < 3 && p.S != "", api.ErrArg},
		} {
			if rule.broken {
				return rule.e
			}
		}
		n := []int{0, p.N, p.N, len(p.S)}[p.Kind]
		*[]*int{nil, &kept, &gone, &come}[p.Kind] += n
	}
	if kept+gone > 20000 || kept+come > 20000 {
		return api.ErrLarge
	}
	return api.OK
}

// modelOver: a text of as many bytes as a good change goes over.
func modelOver(c change) []cell {
	n := 0
	for _, p := range c {
		n += p.N
	}
	return cells('t', strings.Repeat("-", n))
}

func modelNorm(c change) (change, api.Errno) {
	if e := modelCheck(c); e != api.OK {
		return nil, e
	}
	over := modelOver(c)
	return between(over, changed(over, c, 'a')), api.OK
}

func modelSizes(c change) (int, int, api.Errno) {
	if e := modelCheck(c); e != api.OK {
		return 0, 0, e
	}
	over := modelOver(c)
	return len(over), len(changed(over, c, 'a')), api.OK
}

func modelApply(s string, c change) (string, api.Errno) {
	if e := modelCheck(c); e != api.OK {
		return "", e
	}
	if len(modelOver(c)) != len(s) {
		return "", api.ErrArg
	}
	return textOf(changed(cells('t', s), c, 'a')), api.OK
}

func modelInvert(s string, c change) (change, api.Errno) {
	if _, e := modelApply(s, c); e != api.OK {
		return nil, e
	}
	over := cells('t', s)
	return between(changed(over, c, 'a'), over), api.OK
}

func modelCompose(a, b change) (change, api.Errno) {
	for _, c := range []change{a, b} {
		if e := modelCheck(c); e != api.OK {
			return nil, e
		}
	}
	over := modelOver(a)
	made := changed(over, a, 'a')
	if len(modelOver(b)) != len(made) {
		return nil, api.ErrArg
	}
	c := between(over, changed(made, b, 'b'))
	if modelCheck(c) != api.OK {
		return nil, api.ErrLarge
	}
	return c, api.OK
}

// modelPlaces of what a normal change puts, and of the bytes that it cuts.
func modelPlaces(c change, of byte) (puts map[int][]cell, cuts map[int]bool) {
	puts, cuts = map[int][]cell{}, map[int]bool{}
	at := 0
	for _, p := range c {
		if p.Kind == 3 {
			for i := range len(p.S) {
				puts[at] = append(puts[at], cell{of, at*100000 + i, p.S[i]})
			}
		}
		for i := range p.N {
			cuts[at+i] = p.Kind == 2
		}
		at += p.N
	}
	return puts, cuts
}

func modelTransform(a, b change) (change, change, api.Errno) {
	for _, c := range []change{a, b} {
		if e := modelCheck(c); e != api.OK {
			return nil, nil, e
		}
	}
	over := modelOver(a)
	if len(modelOver(b)) != len(over) {
		return nil, nil, api.ErrArg
	}
	a, _ = modelNorm(a)
	b, _ = modelNorm(b)
	aPuts, aCuts := modelPlaces(a, 'a')
	bPuts, bCuts := modelPlaces(b, 'b')
	var ofA, ofB, ofBoth []cell
	for at := range len(over) + 1 {
		ofA = append(ofA, aPuts[at]...)
		ofB = append(ofB, bPuts[at]...)
		ofBoth = append(append(ofBoth, aPuts[at]...), bPuts[at]...)
		if at < len(over) && !aCuts[at] {
			ofA = append(ofA, over[at])
		}
		if at < len(over) && !bCuts[at] {
			ofB = append(ofB, over[at])
		}
		if at < len(over) && !aCuts[at] && !bCuts[at] {
			ofBoth = append(ofBoth, over[at])
		}
	}
	c, d := between(ofB, ofBoth), between(ofA, ofBoth)
	if modelCheck(c) != api.OK || modelCheck(d) != api.OK {
		return nil, nil, api.ErrLarge
	}
	return c, d, api.OK
}

// isNormal, by the words for it.
func isNormal(c change) bool {
	for i, p := range c {
		if p.N+len(p.S) == 0 {
			return false
		}
		if i > 0 && (c[i-1].Kind == p.Kind || c[i-1].Kind == 2 && p.Kind == 3) {
			return false
		}
	}
	return true
}

// allChanges of a text of n bytes that are normal and put this, or nothing, at each place.
func allChanges(n int, s string) []change {
	var all []change
	for bits := range 1 << (2*n + 1) {
		var c change
		for at := range n + 1 {
			if bits>>(n+at)&1 == 1 {
				c = append(c, put(s))
			}
			if at < n {
				c = append(c, api.Part{Kind: 1 + bits>>at&1, N: 1})
			}
		}
		c, _ = modelNorm(c)
		all = append(all, c)
	}
	return all
}

// maker of texts and changes; the same ones in each run.
type maker struct{ *rand.Rand }

func newMaker(seed uint64) maker { return maker{rand.New(rand.NewPCG(15, seed))} }

func pick[T any](m maker, l []T) T { return l[m.IntN(len(l))] }

// text of n bytes, of any kind.
func (m maker) text(n int) string {
	b := make([]byte, n)
	for i := range b {
		b[i] = byte(m.IntN(256))
	}
	return string(b)
}

// change of a text of n bytes, mostly not normal.
func (m maker) change(n int) change {
	var c change
	for {
		p := api.Part{Kind: 1 + m.IntN(3)}
		if p.Kind == 3 {
			p.S = m.text(m.IntN(4))
		} else {
			p.N = min(n, m.IntN(6))
			n -= p.N
		}
		c = append(c, p)
		if n == 0 && m.IntN(3) == 0 {
			return c
		}
	}
}

// spoil a change: mostly it is no longer good, or goes over another number of bytes.
func (m maker) spoil(c change) change {
	p := &c[m.IntN(len(c))]
	switch m.IntN(7) {
	case 0:
		p.Kind = pick(m, []int{0, -1, 4, 1 << 40, math.MinInt})
	case 1:
		p.N = pick(m, []int{-1, 1, 19999, 20000, 20001, math.MaxInt, math.MinInt})
	case 2:
		p.S = pick(m, []string{"", "y", x(19990), x(20000), x(20001)})
	case 3:
		p.Kind = 1 + m.IntN(3)
	case 4:
		return append(c, make(change, 400)...)
	case 5:
		return append(c, m.change(m.IntN(3))...)
	case 6:
		return c[:m.IntN(len(c))]
	}
	return c
}
