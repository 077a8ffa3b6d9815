package place_test

import (
	"math"
	"slices"
	"testing"

	"typecase/api"
	"typecase/place"
)

// P20: lines are numbered from 1 on, byte 10 ends one, and behind the last byte 10 there is one more.

func TestStartsOfKnownTexts(t *testing.T) {
	for _, c := range []struct {
		s    string
		want []int
	}{
		{"", []int{0}},
		{"a", []int{0}},
		{"\n", []int{0, 1}},
		{"a\n", []int{0, 2}},
		{"\na", []int{0, 1}},
		{"\n\n", []int{0, 1, 2}},
		{"ab\n\ncd", []int{0, 3, 4}},
		{"a\rb\r\nc", []int{0, 5}},
		{"€\nx", []int{0, 4}},
		{"\xff\n\xe2\x82\n", []int{0, 2, 5}},
		{"\u2028\u0085\v\f", []int{0}},
	} {
		if got := place.Starts(c.s); !slices.Equal(got, c.want) {
			t.Errorf("Starts(%q) is %v, not %v", c.s, got, c.want)
		}
	}
}

func TestStartsOfAllTexts(t *testing.T) {
	for s := range texts() {
		if got, want := place.Starts(s), modelStarts(s); !slices.Equal(got, want) {
			t.Errorf("Starts(%q) is %v, not %v", s, got, want)
		}
	}
}

// P2: what is answered is new memory each time.
func TestStartsAreNewMemory(t *testing.T) {
	s := "a\nb"
	first := place.Starts(s)
	for i := range first {
		first[i] = -7
	}
	_ = append(first, -7)
	if got := place.Starts(s); !slices.Equal(got, []int{0, 2}) {
		t.Errorf("Starts(%q) is %v behind a change of an earlier answer", s, got)
	}
}

// P21: Of and At turn places into lines and columns and back, Line says what a line says.

func TestOfKnownPlaces(t *testing.T) {
	for _, c := range []struct {
		s             string
		at, line, col int
	}{
		{"", 0, 1, 1},
		{"a", 1, 1, 2},
		{"\n", 0, 1, 1},
		{"\n", 1, 2, 1},
		{"ab\ncd", 2, 1, 3},
		{"ab\ncd", 3, 2, 1},
		{"ab\ncd", 5, 2, 3},
		{"€x", 3, 1, 4},
		{"\r\n", 1, 1, 2},
	} {
		line, col, e := place.Of(c.s, c.at)
		if line != c.line || col != c.col || e != api.OK {
			t.Errorf("Of(%q, %d) is %d, %d, %d, not %d, %d", c.s, c.at, line, col, e, c.line, c.col)
		}
	}
}

func TestPlacesOfAllTexts(t *testing.T) {
	for s := range texts() {
		spots := modelSpots(s)
		if len(spots) != len(s)+1 {
			t.Fatalf("%q has %d places", s, len(spots))
		}
		for _, p := range spots {
			if line, col, e := place.Of(s, p.at); line != p.line || col != p.col || e != api.OK {
				t.Errorf("Of(%q, %d) is %d, %d, %d, not %d, %d", s, p.at, line, col, e, p.line, p.col)
			}
			if at, e := place.At(s, p.line, p.col); at != p.at || e != api.OK {
				t.Errorf("At(%q, %d, %d) is %d, %d, not %d", s, p.line, p.col, at, e, p.at)
			}
		}
	}
}

func TestLinesOfAllTexts(t *testing.T) {
	for s := range texts() {
		for i, want := range modelLines(s) {
			if got, e := place.Line(s, i+1); got != want || e != api.OK {
				t.Errorf("Line(%q, %d) is %q, %d, not %q", s, i+1, got, e, want)
			}
		}
	}
}

func TestPlacesThatAreNot(t *testing.T) {
	for s := range texts() {
		for _, at := range []int{math.MinInt, -1, len(s) + 1, len(s) + 2, math.MaxInt} {
			if line, col, e := place.Of(s, at); line != 0 || col != 0 || e != api.ErrArg {
				t.Errorf("Of(%q, %d) is %d, %d, %d", s, at, line, col, e)
			}
		}
	}
}

func TestColumnsThatAreNot(t *testing.T) {
	for s := range texts() {
		for i, says := range modelLines(s) {
			for _, col := range []int{math.MinInt, -1, 0, len(says) + 2, len(says) + 3, math.MaxInt - 1, math.MaxInt} {
				if at, e := place.At(s, i+1, col); at != 0 || e != api.ErrArg {
					t.Errorf("At(%q, %d, %d) is %d, %d", s, i+1, col, at, e)
				}
			}
		}
	}
}

func TestLinesThatAreNot(t *testing.T) {
	for s := range texts() {
		n := len(modelLines(s))
		for _, line := range []int{math.MinInt, -1, 0, n + 1, n + 2, math.MaxInt - 1, math.MaxInt} {
			if at, e := place.At(s, line, 1); at != 0 || e != api.ErrArg {
				t.Errorf("At(%q, %d, 1) is %d, %d", s, line, at, e)
			}
			if got, e := place.Line(s, line); got != "" || e != api.ErrArg {
				t.Errorf("Line(%q, %d) is %q, %d", s, line, got, e)
			}
		}
	}
}
