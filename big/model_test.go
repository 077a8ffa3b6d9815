package big_test

import (
	"iter"
	mathbig "math/big"
	"math/rand/v2"
	"slices"
)

// The reference of these tests: the library's whole numbers, made from the words by the document's sum alone.

// modelNumber is the sum of the words times 1, 2^32, 2^64 and so on.
func modelNumber(a []uint32) *mathbig.Int {
	sum := new(mathbig.Int)
	for i, x := range a {
		part := new(mathbig.Int).SetUint64(uint64(x))
		sum.Add(sum, part.Lsh(part, uint(32*i)))
	}
	return sum
}

// modelWords is the one list without a word 0 at its end that stands for n.
func modelWords(n *mathbig.Int) []uint32 {
	var l []uint32
	mask := mathbig.NewInt(1<<32 - 1)
	for rest := new(mathbig.Int).Set(n); rest.Sign() > 0; rest.Rsh(rest, 32) {
		l = append(l, uint32(new(mathbig.Int).And(rest, mask).Uint64()))
	}
	return l
}

// edgeWords are those beside which carries and guesses turn.
var edgeWords = []uint32{0, 1, 2, 1<<31 - 1, 1 << 31, 1<<31 + 1, 1<<32 - 2, 1<<32 - 1}

// listsOf hands over every list of up to n of the words, with and without words 0 at the end.
func listsOf(words []uint32, n int) iter.Seq[[]uint32] {
	return func(yield func([]uint32) bool) {
		layer := [][]uint32{nil}
		for range n + 1 {
			var next [][]uint32
			for _, l := range layer {
				if !yield(l) {
					return
				}
				for _, w := range words {
					next = append(next, append(slices.Clone(l), w))
				}
			}
			layer = next
		}
	}
}

// mixedLists are lists of up to most words, a part of them edge words, always the same ones for one seed.
func mixedLists(seed uint64, count, most int) [][]uint32 {
	r := rand.New(rand.NewPCG(seed, 7))
	lists := make([][]uint32, count)
	for i := range lists {
		l := make([]uint32, r.IntN(most+1))
		for j := range l {
			l[j] = r.Uint32() >> r.IntN(32)
			if r.IntN(2) == 0 {
				l[j] = edgeWords[r.IntN(len(edgeWords))]
			}
		}
		lists[i] = l
	}
	return lists
}

// someLists are all short edge lists and some longer mixed ones.
func someLists() [][]uint32 {
	return append(slices.Collect(listsOf(edgeWords, 3)), mixedLists(1, 200, 12)...)
}

// somePairs hands over pairs of edge lists, each with each, and of longer mixed ones.
func somePairs() iter.Seq2[[]uint32, []uint32] {
	return func(yield func(a, b []uint32) bool) {
		for a := range listsOf(edgeWords, 3) {
			for b := range listsOf(edgeWords, 2) {
				if !yield(a, b) || !yield(b, a) {
					return
				}
			}
		}
		few := []uint32{0, 1, 1 << 31, 1<<32 - 1}
		for a := range listsOf(few, 5) {
			for b := range listsOf(few, 3) {
				if !yield(a, b) {
					return
				}
			}
		}
		long := mixedLists(2, 150, 12)
		for _, a := range long {
			for _, b := range long {
				if !yield(a, b) {
					return
				}
			}
		}
	}
}
