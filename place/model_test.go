package place_test

import (
	"iter"
	"strings"
)

// The reference of these tests: the lines of a text as the document tells them, by splitting, with nothing of the package itself.

// modelLines says what each line says.
func modelLines(s string) []string { return strings.Split(s, "\n") }

// spot is a place with its line and column.
type spot struct{ at, line, col int }

// modelSpots tells every place of a text in order: each byte of each line, then the byte 10 that ends it or the end of the text.
func modelSpots(s string) []spot {
	var l []spot
	at := 0
	for i, says := range modelLines(s) {
		for col := 1; col <= len(says)+1; col++ {
			l = append(l, spot{at, i + 1, col})
			at++
		}
	}
	return l
}

// modelStarts tells the places with column 1.
func modelStarts(s string) []int {
	var l []int
	for _, p := range modelSpots(s) {
		if p.col == 1 {
			l = append(l, p.at)
		}
	}
	return l
}

// texts hands over every text of up to six bytes of three kinds, and some longer ones.
func texts() iter.Seq[string] {
	return func(yield func(string) bool) {
		layer := []string{""}
		for n := 0; n <= 6; n++ {
			var next []string
			for _, s := range layer {
				if !yield(s) {
					return
				}
				next = append(next, s+"\n", s+"a", s+"\r")
			}
			layer = next
		}
		for _, s := range []string{
			"a: 1\r\nb: 2\r\n",
			"€\n\xff\xfe\n\x00\n",
			"\u2028\u0085\v\f",
			"no line end " + strings.Repeat("x", 300),
			strings.Repeat("\n", 300),
			strings.Repeat("key: \"value\" # note\n", 40) + "end",
		} {
			if !yield(s) {
				return
			}
		}
	}
}
