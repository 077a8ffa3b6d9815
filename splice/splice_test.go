package splice_test

import (
	"fmt"
	"math"
	"slices"
	"strings"
	"testing"

	"typecase/api"
	"typecase/splice"
)

// brief: a change, as far as a line of it tells.
func brief(c change) string {
	var told strings.Builder
	for i, p := range c {
		if i == 20 {
			fmt.Fprintf(&told, " and %d more", len(c)-i)
			break
		}
		fmt.Fprintf(&told, " %d:%d:%.20q", p.Kind, p.N, p.S)
	}
	return "(" + told.String() + " )"
}

// checkNorm: is this the normal change of c, or its error, and do the model and Sizes say so?
func checkNorm(t *testing.T, c, want change, wantErr api.Errno) {
	t.Helper()
	if n, e := splice.Norm(c); !slices.Equal(n, want) || e != wantErr {
		t.Errorf("Norm of %s is %s and %d, not %s and %d", brief(c), brief(n), e, brief(want), wantErr)
	}
	if n, e := modelNorm(c); !slices.Equal(n, want) || e != wantErr {
		t.Errorf("the model says %s and %d of %s", brief(n), e, brief(c))
	}
	goes, makes, e := splice.Sizes(c)
	if wantGoes, wantMakes, _ := modelSizes(c); goes != wantGoes || makes != wantMakes || e != wantErr {
		t.Errorf("Sizes of %s are %d, %d and %d, not %d, %d and %d", brief(c), goes, makes, e, wantGoes, wantMakes, wantErr)
	}
	if !isNormal(want) {
		t.Errorf("%s is not normal", brief(want))
	}
	// What is normal stays.
	if n, e := splice.Norm(want); !slices.Equal(n, want) || e != api.OK {
		t.Errorf("Norm of %s, which is normal, is %s and %d", brief(want), brief(n), e)
	}
}

// P150: normal changes.

func TestNorm(t *testing.T) {
	for _, c := range []struct{ c, want change }{
		{nil, nil},
		{change{}, nil},
		{change{keep(0)}, nil},
		{change{cut(0), put(""), keep(0), cut(0)}, nil},
		{change{keep(1)}, change{keep(1)}},
		{change{cut(1)}, change{cut(1)}},
		{change{put("a")}, change{put("a")}},
		{change{keep(1), keep(2), keep(3)}, change{keep(6)}},
		{change{cut(1), cut(2), cut(3)}, change{cut(6)}},
		{change{put("b"), put("a"), put("c")}, change{put("bac")}},
		{change{keep(1), put(""), keep(2), cut(0), keep(3)}, change{keep(6)}},
		{change{cut(1), keep(0), cut(2)}, change{cut(3)}},
		{change{put("a"), cut(0), put("b"), keep(0), put("c")}, change{put("abc")}},
		{change{cut(1), put("a")}, change{put("a"), cut(1)}},
		{change{put("a"), cut(1)}, change{put("a"), cut(1)}},
		{change{cut(1), put("a"), keep(0), cut(2), put("b"), cut(3)}, change{put("ab"), cut(6)}},
		{change{cut(1), keep(1), put("a")}, change{cut(1), keep(1), put("a")}},
		{change{cut(2), put("a"), keep(1), cut(3), put("b"), keep(4), put("c"), cut(5), put("d")}, change{put("a"), cut(2), keep(1), put("b"), cut(3), keep(4), put("cd"), cut(5)}},
		{change{put("\xc3"), put("\xa9"), put("\x00\xff")}, change{put("é\x00\xff")}},
	} {
		checkNorm(t, c.c, c.want, api.OK)
	}
}

func TestBoundsOfChanges(t *testing.T) {
	for _, c := range []struct{ c, want change }{
		{parts(200, keep(1), put("a")), parts(200, keep(1), put("a"))},
		{parts(400, cut(1)), change{cut(400)}},
		{append(parts(133, keep(0), cut(0), put("")), keep(0)), nil},
		{change{keep(20000)}, change{keep(20000)}},
		{change{cut(20000)}, change{cut(20000)}},
		{change{put(x(20000))}, change{put(x(20000))}},
		{change{cut(20000), put(x(20000))}, change{put(x(20000)), cut(20000)}},
		{change{keep(12000), cut(8000), put(x(8000))}, change{keep(12000), put(x(8000)), cut(8000)}},
		{parts(400, keep(50)), change{keep(20000)}},
		{parts(200, cut(100), put(x(100))), change{put(x(20000)), cut(20000)}},
	} {
		checkNorm(t, c.c, c.want, api.OK)
	}
	for _, c := range []change{
		parts(401, keep(0)),
		parts(401, cut(1)),
		parts(401, put("")),
		make(change, 401),
		make(change, 100000),
		{put(x(20001))},
		{keep(20000), cut(1)},
		{keep(1), cut(20000)},
		{cut(20000), cut(1)},
		{keep(20000), keep(1)},
		{keep(20000), put("a")},
		{keep(1), put(x(20000))},
		{put(x(20000)), put("a")},
		{put("a"), keep(10000), put("a"), cut(10000), keep(10000)},
		parts(400, cut(20000)),
		parts(400, put(x(20000))),
	} {
		checkNorm(t, c, nil, api.ErrLarge)
	}
}

func TestWrongParts(t *testing.T) {
	for _, c := range []struct {
		p api.Part
		e api.Errno
	}{
		{api.Part{}, api.ErrKind},
		{api.Part{Kind: 4, N: 1}, api.ErrKind},
		{api.Part{Kind: -1}, api.ErrKind},
		{api.Part{Kind: math.MinInt}, api.ErrKind},
		{api.Part{Kind: math.MaxInt}, api.ErrKind},
		{keep(-1), api.ErrArg}, {cut(-1), api.ErrArg}, {keep(20001), api.ErrArg}, {cut(20001), api.ErrArg},
		{keep(math.MinInt), api.ErrArg}, {cut(math.MaxInt), api.ErrArg},
		{api.Part{Kind: 3, N: 1}, api.ErrArg},
		{api.Part{Kind: 3, N: 1, S: "a"}, api.ErrArg},
		{api.Part{Kind: 3, N: -1, S: "a"}, api.ErrArg},
		{api.Part{Kind: 3, N: 20001, S: "a"}, api.ErrArg},
		{put(x(20001)), api.ErrLarge},
		{api.Part{Kind: 1, N: 1, S: "a"}, api.ErrArg},
		{api.Part{Kind: 2, N: 1, S: "a"}, api.ErrArg},
		{api.Part{Kind: 1, S: "a"}, api.ErrArg},
		{api.Part{Kind: 2, S: x(20000)}, api.ErrArg},
		// Of several errors the first one.
		{api.Part{Kind: 4, N: -1, S: x(20001)}, api.ErrKind},
		{api.Part{Kind: 3, N: 1, S: x(20001)}, api.ErrArg},
		{api.Part{Kind: 1, N: -1, S: x(20001)}, api.ErrArg},
		{api.Part{Kind: 2, N: 20001, S: x(20001)}, api.ErrArg},
		{api.Part{Kind: 1, N: 1, S: x(20001)}, api.ErrLarge},
		{api.Part{Kind: 2, S: x(20001)}, api.ErrLarge},
	} {
		checkNorm(t, change{c.p}, nil, c.e)
		checkNorm(t, change{keep(1), put("a"), c.p, cut(1)}, nil, c.e)
		// Ahead of what is wrong with a part behind it, or with all of them, but not with their number.
		checkNorm(t, change{c.p, {}}, nil, c.e)
		checkNorm(t, change{c.p, put(x(20001))}, nil, c.e)
		checkNorm(t, change{c.p, keep(-1)}, nil, c.e)
		checkNorm(t, change{keep(20000), cut(20000), put(x(20000)), c.p}, nil, c.e)
		checkNorm(t, append(parts(400, keep(1)), c.p), nil, api.ErrLarge)
		checkNorm(t, append(parts(399, keep(1)), c.p), nil, c.e)
		checkWrong(t, change{c.p}, c.e)
	}
}

// checkWrong: do all calls tell what is wrong with a change that is not good, and nothing else?
func checkWrong(t *testing.T, c change, want api.Errno) {
	t.Helper()
	for _, s := range []string{"", "a", x(20001)} {
		if u, e := splice.Apply(s, c); u != "" || e != want {
			t.Errorf("Apply of %s is %q and %d, not %d", brief(c), u, e, want)
		}
		if back, e := splice.Invert(s, c); len(back) > 0 || e != want {
			t.Errorf("Invert of %s is %s and %d, not %d", brief(c), brief(back), e, want)
		}
	}
	for _, pair := range [][2]change{{c, nil}, {nil, c}, {c, {keep(7)}}, {{keep(7)}, c}, {c, {{}}}, {c, {put(x(20001))}}, {c, {keep(-1)}}} {
		checkCompose(t, pair[0], pair[1], nil, want)
		checkTransform(t, pair[0], pair[1], nil, nil, want)
	}
}

// P151: sizes, and what is made.

func TestSizes(t *testing.T) {
	for _, c := range []struct {
		c           change
		goes, makes int
	}{
		{nil, 0, 0},
		{change{keep(3)}, 3, 3},
		{change{cut(3)}, 3, 0},
		{change{put("abc")}, 0, 3},
		{change{put("é")}, 0, 2},
		{change{keep(2), cut(3), put("wxyz"), keep(1), cut(0), put("")}, 6, 7},
		{change{cut(20000), put(x(20000))}, 20000, 20000},
		{change{keep(19999), cut(1)}, 20000, 19999},
	} {
		if goes, makes, e := splice.Sizes(c.c); goes != c.goes || makes != c.makes || e != api.OK {
			t.Errorf("Sizes of %s are %d, %d and %d", brief(c.c), goes, makes, e)
		}
	}
}

// checkApply: does c make this of s, or tell this error, and what does Invert say?
func checkApply(t *testing.T, s string, c change, want string, wantErr api.Errno) {
	t.Helper()
	if u, e := splice.Apply(s, c); u != want || e != wantErr {
		t.Errorf("Apply(%.100q, %s) is %.100q and %d, not %.100q and %d", s, brief(c), u, e, want, wantErr)
	}
	if u, e := modelApply(s, c); u != want || e != wantErr {
		t.Errorf("the model says %.100q and %d of %.100q, %s", u, e, s, brief(c))
	}
	back, e := splice.Invert(s, c)
	wantBack, _ := modelInvert(s, c)
	if !slices.Equal(back, wantBack) || !isNormal(back) || e != wantErr {
		t.Errorf("Invert(%.100q, %s) is %s and %d, not %s and %d", s, brief(c), brief(back), e, brief(wantBack), wantErr)
	}
	if wantErr != api.OK {
		return
	}
	if u, e := splice.Apply(want, back); u != s || e != api.OK {
		t.Errorf("%s leads back to %.100q and %d, not to %.100q", brief(back), u, e, s)
	}
	// Who goes back from there comes where c led.
	normal, _ := splice.Norm(c)
	if forth, e := splice.Invert(want, back); !slices.Equal(forth, normal) || e != api.OK {
		t.Errorf("Invert of Invert of %s is %s and %d", brief(c), brief(forth), e)
	}
}

func TestApplyAndInvert(t *testing.T) {
	for _, c := range []struct {
		s    string
		c    change
		want string
		back change
	}{
		{"", nil, "", nil},
		{"", change{keep(0), put(""), cut(0)}, "", nil},
		{"", change{put("a")}, "a", change{cut(1)}},
		{"abc", change{keep(3)}, "abc", change{keep(3)}},
		{"abc", change{cut(3)}, "", change{put("abc")}},
		{"abc", change{keep(1), cut(1), keep(1)}, "ac", change{keep(1), put("b"), keep(1)}},
		{"abc", change{put("x"), keep(1), put("y"), keep(2), put("z")}, "xaybcz", change{cut(1), keep(1), cut(1), keep(2), cut(1)}},
		{"hello", change{keep(1), cut(3), put("XY"), keep(1), put("!")}, "hXYo!", change{keep(1), put("ell"), cut(2), keep(1), cut(1)}},
		{"hello", change{keep(1), put("XY"), cut(3), keep(1), put("!")}, "hXYo!", change{keep(1), put("ell"), cut(2), keep(1), cut(1)}},
		{"abcd", change{cut(1), put("w"), cut(1), put("x"), keep(1), keep(0), cut(1), put("y")}, "wxcy", change{put("ab"), cut(2), keep(1), put("d"), cut(1)}},
		// What is put is what is cut: it was changed all the same.
		{"ab", change{cut(2), put("ab")}, "ab", change{put("ab"), cut(2)}},
		// Bytes, not runes.
		{"é\x00\xff", change{keep(1), cut(2), put("\xa8"), keep(1)}, "è\xff", change{keep(1), put("\xa9\x00"), cut(1), keep(1)}},
	} {
		checkApply(t, c.s, c.c, c.want, api.OK)
		if back, e := splice.Invert(c.s, c.c); !slices.Equal(back, c.back) || e != api.OK {
			t.Errorf("Invert(%q, %s) is %s and %d, not %s", c.s, brief(c.c), brief(back), e, brief(c.back))
		}
		// Of a text that is shorter or longer.
		checkApply(t, c.s+"x", c.c, "", api.ErrArg)
		checkApply(t, c.s+x(20000), c.c, "", api.ErrArg)
		if c.s != "" {
			checkApply(t, c.s[1:], c.c, "", api.ErrArg)
			checkApply(t, "", c.c, "", api.ErrArg)
		}
	}
}

func TestApplyAtTheBounds(t *testing.T) {
	checkApply(t, x(20000), change{keep(20000)}, x(20000), api.OK)
	checkApply(t, x(20000), change{cut(20000), put(strings.Repeat("y", 20000))}, strings.Repeat("y", 20000), api.OK)
	checkApply(t, x(200), parts(200, keep(1), put("y")), strings.Repeat("xy", 200), api.OK)
	checkApply(t, x(200), parts(200, cut(1), put("y")), strings.Repeat("y", 200), api.OK)
	checkApply(t, x(20001), change{keep(20000)}, "", api.ErrArg)
	checkApply(t, x(20001), change{keep(20000), keep(1)}, "", api.ErrLarge)
}

func TestMadeChanges(t *testing.T) {
	m := newMaker(150)
	told := map[api.Errno]int{}
	for i := range 6000 {
		s := m.text(m.IntN(12))
		c := m.change(len(s))
		if i%2 == 0 {
			c = m.spoil(c)
		}
		want, e := modelNorm(c)
		checkNorm(t, c, want, e)
		u, e := modelApply(s, c)
		checkApply(t, s, c, u, e)
		told[e]++
	}
	for _, e := range []api.Errno{api.OK, api.ErrArg, api.ErrLarge, api.ErrKind} {
		if told[e] < 200 {
			t.Errorf("%d was told %d times only", e, told[e])
		}
	}
}

// P152: one behind the other.

// checkCompose: are both as one this, or this error, and does the model say so?
func checkCompose(t *testing.T, a, b, want change, wantErr api.Errno) {
	t.Helper()
	if c, e := splice.Compose(a, b); !slices.Equal(c, want) || !isNormal(c) || e != wantErr {
		t.Errorf("Compose(%s, %s) is %s and %d, not %s and %d", brief(a), brief(b), brief(c), e, brief(want), wantErr)
	}
	if c, e := modelCompose(a, b); !slices.Equal(c, want) || e != wantErr {
		t.Errorf("the model says %s and %d of %s, %s, not %s and %d", brief(c), e, brief(a), brief(b), brief(want), wantErr)
	}
}

func TestCompose(t *testing.T) {
	for _, c := range []struct{ a, b, want change }{
		{nil, nil, nil},
		{change{keep(0)}, change{put("")}, nil},
		{nil, change{put("a")}, change{put("a")}},
		{change{cut(2)}, nil, change{cut(2)}},
		{change{keep(3)}, change{keep(3)}, change{keep(3)}},
		{change{keep(3)}, change{cut(1), keep(2)}, change{cut(1), keep(2)}},
		// What a has put and b cuts is nowhere.
		{change{put("a")}, change{cut(1)}, nil},
		{change{keep(1), put("abc"), keep(1)}, change{keep(2), cut(1), keep(2)}, change{keep(1), put("ac"), keep(1)}},
		{change{keep(1), put("abc"), keep(1)}, change{keep(1), cut(3), keep(1)}, change{keep(2)}},
		{change{keep(1), put("abc"), keep(1)}, change{cut(5)}, change{cut(2)}},
		{change{put("ab"), cut(1), keep(1)}, change{cut(2), keep(1)}, change{cut(1), keep(1)}},
		// What is cut is cut by either.
		{change{cut(1), keep(2)}, change{cut(1), keep(1)}, change{cut(2), keep(1)}},
		{change{keep(1), cut(1), keep(1)}, change{cut(2)}, change{cut(3)}},
		{change{keep(1), cut(1), keep(1)}, change{keep(1), cut(1)}, change{keep(1), cut(2)}},
		// What both put at one place, in the order of what b makes.
		{change{put("ab")}, change{put("x"), keep(2)}, change{put("xab")}},
		{change{put("ab")}, change{keep(1), put("x"), keep(1)}, change{put("axb")}},
		{change{put("ab")}, change{keep(2), put("x")}, change{put("abx")}},
		{change{put("ab")}, change{cut(1), put("x"), keep(1)}, change{put("xb")}},
		{change{put("ab")}, change{keep(1), cut(1), put("x")}, change{put("ax")}},
		{change{keep(1), put("ab"), cut(2), keep(2)}, change{cut(2), put("c"), keep(3)}, change{put("cb"), cut(3), keep(2)}},
		// What b puts where a cuts stands ahead of what is cut.
		{change{keep(1), cut(2), keep(1)}, change{keep(1), put("x"), keep(1)}, change{keep(1), put("x"), cut(2), keep(1)}},
		{change{cut(2), keep(1)}, change{put("x"), cut(1)}, change{put("x"), cut(3)}},
		{change{cut(1), put("a"), cut(1)}, change{keep(1), put("x")}, change{put("ax"), cut(2)}},
		{change{keep(1), cut(1), keep(1)}, change{cut(1), put("x"), keep(1)}, change{put("x"), cut(2), keep(1)}},
		{change{keep(2), cut(1), keep(2)}, change{keep(1), cut(1), put("x"), cut(1), put("y"), keep(1)}, change{keep(1), put("xy"), cut(3), keep(1)}},
	} {
		checkCompose(t, c.a, c.b, c.want, api.OK)
		// Of b one byte more, or less, and of a.
		checkCompose(t, c.a, append(slices.Clone(c.b), keep(1)), nil, api.ErrArg)
		checkCompose(t, c.a, append(slices.Clone(c.b), cut(1)), nil, api.ErrArg)
		checkCompose(t, append(slices.Clone(c.a), keep(1)), c.b, nil, api.ErrArg)
		checkCompose(t, append(slices.Clone(c.a), put("a")), c.b, nil, api.ErrArg)
		checkCompose(t, append(slices.Clone(c.a), cut(1)), append(slices.Clone(c.b), cut(1)), nil, api.ErrArg)
	}
}

func TestComposeAtTheBounds(t *testing.T) {
	// Of two changes of few parts one of 400, and of more.
	a, b := parts(100, keep(2), cut(1)), parts(100, keep(1), put("x"), keep(1))
	c := parts(100, keep(1), put("x"), keep(1), cut(1))
	checkCompose(t, a, b, c, api.OK)
	checkCompose(t, append(slices.Clone(a), cut(1)), b, append(c[:399:399], cut(2)), api.OK)
	checkCompose(t, append(slices.Clone(a), keep(1)), append(slices.Clone(b), keep(1)), nil, api.ErrLarge)
	checkCompose(t, append(slices.Clone(a), put("y")), append(slices.Clone(b), cut(1)), c, api.OK)
	checkCompose(t, append(change{put("y")}, a...), append(change{keep(1)}, b...), nil, api.ErrLarge)
	// ErrArg ahead of it.
	checkCompose(t, append(slices.Clone(a), keep(1)), append(slices.Clone(b), keep(2)), nil, api.ErrArg)
	// Both of 400 parts.
	checkCompose(t, parts(200, keep(1), put("x")), parts(200, keep(1), cut(1)), change{keep(200)}, api.OK)
	checkCompose(t, parts(200, keep(1), cut(1)), parts(200, keep(1), put("x")), nil, api.ErrLarge)
	checkCompose(t, parts(200, put("x"), keep(1)), parts(200, put("y"), cut(2)), change{put(strings.Repeat("y", 200)), cut(200)}, api.OK)
	// As many bytes as there may be.
	checkCompose(t, change{cut(20000), put(x(20000))}, change{put(x(20000)), cut(20000)}, change{put(x(20000)), cut(20000)}, api.OK)
	checkCompose(t, change{put(x(20000))}, change{keep(1), cut(19999), put(x(19999))}, change{put(x(20000))}, api.OK)
	checkCompose(t, change{put(x(20000))}, change{keep(20000), put("x")}, nil, api.ErrLarge)
}

func TestErrorsOfTwo(t *testing.T) {
	kind, arg, large := change{{}}, change{keep(-1)}, parts(401, keep(0))
	for _, c := range []struct {
		a, b change
		e    api.Errno
	}{
		{kind, arg, api.ErrKind}, {arg, kind, api.ErrArg}, {large, kind, api.ErrLarge}, {kind, large, api.ErrKind}, {arg, large, api.ErrArg}, {large, arg, api.ErrLarge},
		{change{keep(1)}, kind, api.ErrKind}, {kind, change{keep(1)}, api.ErrKind}, {change{keep(1)}, large, api.ErrLarge}, {large, change{keep(1)}, api.ErrLarge},
	} {
		checkCompose(t, c.a, c.b, nil, c.e)
		checkTransform(t, c.a, c.b, nil, nil, c.e)
	}
}

func TestAllSmallCompositions(t *testing.T) {
	for n := range 3 {
		for _, a := range allChanges(n, "a") {
			_, makes, _ := modelSizes(a)
			if makes > 4 {
				continue
			}
			for _, b := range allChanges(makes, "b") {
				want, e := modelCompose(a, b)
				checkCompose(t, a, b, want, e)
			}
		}
	}
}

func TestMadeCompositions(t *testing.T) {
	m := newMaker(152)
	told := map[api.Errno]int{}
	for i := range 6000 {
		s := m.text(m.IntN(12))
		a := m.change(len(s))
		_, makes, _ := modelSizes(a)
		b := m.change(makes)
		checkAsOne(t, m, s, a, b)
		if i%4 == 0 {
			a = m.spoil(a)
		}
		if i%4 == 1 {
			b = m.spoil(b)
		}
		want, e := modelCompose(a, b)
		checkCompose(t, a, b, want, e)
		told[e]++
	}
	for _, e := range []api.Errno{api.OK, api.ErrArg, api.ErrLarge, api.ErrKind} {
		if told[e] < 200 {
			t.Errorf("%d was told %d times only", e, told[e])
		}
	}
}

// checkAsOne: do a and b as one make of s what they make one behind the other, also with a third, and with what leads back?
func checkAsOne(t *testing.T, m maker, s string, a, b change) {
	t.Helper()
	u, _ := splice.Apply(s, a)
	v, _ := splice.Apply(u, b)
	both, _ := splice.Compose(a, b)
	if w, e := splice.Apply(s, both); w != v || e != api.OK {
		t.Errorf("%s makes %q of %q, not %q", brief(both), w, s, v)
	}
	c := m.change(len(v))
	behind, _ := splice.Compose(b, c)
	all, _ := splice.Compose(a, behind)
	if other, e := splice.Compose(both, c); !slices.Equal(all, other) || e != api.OK {
		t.Errorf("%s, %s and %s as one are %s or %s", brief(a), brief(b), brief(c), brief(all), brief(other))
	}
	backA, _ := splice.Invert(s, a)
	backB, _ := splice.Invert(u, b)
	back, _ := splice.Invert(s, both)
	if w, e := splice.Compose(backB, backA); e != api.OK || !slices.Equal(w, back) {
		t.Errorf("what leads back from %s and %s is %s or %s", brief(a), brief(b), brief(w), brief(back))
	}
}

// P153: over each other.

// checkTransform: do these become of a and b, or is there this error, and does the model say so? Do both ways make one text?
func checkTransform(t *testing.T, a, b, wantA, wantB change, wantErr api.Errno) {
	t.Helper()
	c, d, e := splice.Transform(a, b)
	if !slices.Equal(c, wantA) || !slices.Equal(d, wantB) || !isNormal(c) || !isNormal(d) || e != wantErr {
		t.Errorf("Transform(%s, %s) is %s, %s and %d, not %s, %s and %d", brief(a), brief(b), brief(c), brief(d), e, brief(wantA), brief(wantB), wantErr)
	}
	if c, d, e := modelTransform(a, b); !slices.Equal(c, wantA) || !slices.Equal(d, wantB) || e != wantErr {
		t.Errorf("the model says %s, %s and %d of %s, %s", brief(c), brief(d), e, brief(a), brief(b))
	}
	if wantErr != api.OK {
		return
	}
	goes, _, _ := splice.Sizes(a)
	s := newMaker(uint64(goes)).text(goes)
	u, _ := splice.Apply(s, a)
	v, _ := splice.Apply(s, b)
	w, e := splice.Apply(u, d)
	if z, f := splice.Apply(v, c); w != z || e != api.OK || f != api.OK {
		t.Errorf("%s and %s make %.100q (%d) or %.100q (%d) of %.100q", brief(a), brief(b), w, e, z, f, s)
	}
}

func TestTransform(t *testing.T) {
	for _, c := range []struct{ a, b, wantA, wantB change }{
		{nil, nil, nil, nil},
		{change{keep(2)}, change{keep(2)}, change{keep(2)}, change{keep(2)}},
		// At one place a's comes ahead of b's.
		{change{put("a")}, change{put("b")}, change{put("a"), keep(1)}, change{keep(1), put("b")}},
		{change{put("b")}, change{put("a")}, change{put("b"), keep(1)}, change{keep(1), put("a")}},
		{change{keep(1), put("aa"), keep(1)}, change{keep(1), put("b"), keep(1)}, change{keep(1), put("aa"), keep(2)}, change{keep(3), put("b"), keep(1)}},
		{change{keep(2), put("a")}, change{keep(2), put("b")}, change{keep(2), put("a"), keep(1)}, change{keep(3), put("b")}},
		// At two places each stands at its own.
		{change{keep(1), put("a"), keep(1)}, change{put("b"), keep(2)}, change{keep(2), put("a"), keep(1)}, change{put("b"), keep(3)}},
		{change{put("a"), keep(2)}, change{keep(2), put("b")}, change{put("a"), keep(3)}, change{keep(3), put("b")}},
		// What both cut goes once.
		{change{cut(3)}, change{cut(3)}, nil, nil},
		{change{cut(2), keep(1)}, change{keep(1), cut(2)}, change{cut(1)}, change{cut(1)}},
		{change{keep(1), cut(1), keep(1)}, change{cut(3)}, nil, change{cut(2)}},
		{change{cut(1), keep(2)}, change{keep(2), cut(1)}, change{cut(1), keep(1)}, change{keep(1), cut(1)}},
		// What is put stays, though all around it goes.
		{change{cut(2), keep(1)}, change{keep(1), put("b"), cut(1), keep(1)}, change{cut(1), keep(2)}, change{put("b"), keep(1)}},
		{change{cut(3)}, change{keep(1), put("b"), keep(2)}, change{cut(1), keep(1), cut(2)}, change{put("b")}},
		{change{keep(1), put("a"), keep(2)}, change{cut(3)}, change{put("a")}, change{cut(1), keep(1), cut(2)}},
		{change{put("a"), cut(3)}, change{keep(2), put("b"), keep(1)}, change{put("a"), cut(2), keep(1), cut(1)}, change{keep(1), put("b")}},
		// Its place is that of the normal change: ahead of what is cut there.
		{change{cut(2), put("a")}, change{keep(1), put("b"), keep(1)}, change{put("a"), cut(1), keep(1), cut(1)}, change{keep(1), put("b")}},
		{change{cut(2), put("a")}, change{keep(2), put("b")}, change{put("a"), cut(2), keep(1)}, change{keep(1), put("b")}},
		{change{keep(1), put("a"), keep(1)}, change{cut(2), put("b")}, change{keep(1), put("a")}, change{put("b"), cut(1), keep(1), cut(1)}},
		{change{cut(2), put("a")}, change{cut(2), put("b")}, change{put("a"), keep(1)}, change{keep(1), put("b")}},
		{change{cut(1), put("a"), cut(1), put("c")}, change{keep(1), put("b"), keep(1)}, change{put("ac"), cut(1), keep(1), cut(1)}, change{keep(2), put("b")}},
		// Two places, of which nothing is left between: each behind the other.
		{change{keep(1), put("a"), keep(2)}, change{cut(1), keep(1), put("b"), cut(1)}, change{put("a"), keep(2)}, change{cut(1), keep(2), put("b"), cut(1)}},
		{change{keep(2), put("a"), keep(1)}, change{keep(1), put("b"), cut(1), keep(1)}, change{keep(2), put("a"), keep(1)}, change{keep(1), put("b"), cut(1), keep(2)}},
		{change{keep(1), cut(1), keep(1)}, change{cut(1), keep(1), put("b"), keep(1)}, change{cut(1), keep(2)}, change{put("b"), cut(1), keep(1)}},
	} {
		checkTransform(t, c.a, c.b, c.wantA, c.wantB, api.OK)
		for _, more := range []api.Part{keep(1), cut(1)} {
			checkTransform(t, append(slices.Clone(c.a), more), c.b, nil, nil, api.ErrArg)
			checkTransform(t, c.a, append(slices.Clone(c.b), more), nil, nil, api.ErrArg)
		}
	}
}

func TestTransformAtTheBounds(t *testing.T) {
	// What one cuts is cut into as many parts as the other one puts.
	ys := parts(200, put("y"), keep(1))
	cuts := parts(200, keep(1), cut(1))
	all := strings.Repeat("y", 200)
	checkTransform(t, change{cut(200)}, ys, cuts, change{put(all)}, api.OK)
	checkTransform(t, ys, change{cut(200)}, change{put(all)}, cuts, api.OK)
	checkTransform(t, change{put("x"), cut(200)}, ys, nil, nil, api.ErrLarge)
	checkTransform(t, ys, change{put("x"), cut(200)}, nil, nil, api.ErrLarge)
	checkTransform(t, change{cut(200), keep(1)}, append(slices.Clone(ys[:399]), keep(2)), nil, nil, api.ErrLarge)
	checkTransform(t, append(slices.Clone(ys[:399]), keep(2)), change{cut(200), keep(1)}, nil, nil, api.ErrLarge)
	checkTransform(t, append(slices.Clone(ys[:399]), cut(1)), change{cut(200)}, change{put(all)}, cuts[:399], api.OK)
	// Of 400 parts each, and less is left.
	checkTransform(t, parts(200, keep(1), cut(1)), parts(200, cut(1), keep(1)), change{cut(200)}, change{cut(200)}, api.OK)
	checkTransform(t, parts(200, keep(1), cut(1)), change{cut(400)}, nil, change{cut(200)}, api.OK)
	wantA := slices.Concat(change{put("x"), keep(1)}, parts(198, put("x"), keep(2)), change{put("x"), keep(3)})
	wantB := slices.Concat(change{keep(3), put("y")}, parts(198, keep(2), put("y")), change{keep(1), put("y")})
	checkTransform(t, parts(200, put("x"), keep(1)), parts(200, keep(1), put("y")), wantA, wantB, api.OK)
	// As many bytes as there may be, and one more.
	for _, n := range []int{0, 5000} {
		room := (20000 - n) / 2
		a, b := change{keep(n), put(x(room))}, change{keep(n), put(x(room))}
		wantA, e := splice.Norm(change{keep(n), put(x(room)), keep(room)})
		wantB, f := splice.Norm(change{keep(n + room), put(x(room))})
		if e != api.OK || f != api.OK {
			t.Fatal(e, f)
		}
		checkTransform(t, a, b, wantA, wantB, api.OK)
		checkTransform(t, append(slices.Clone(a), put("x")), b, nil, nil, api.ErrLarge)
		checkTransform(t, a, append(change{put("x")}, b...), nil, nil, api.ErrLarge)
		checkTransform(t, append(slices.Clone(a), put("x"), keep(1)), b, nil, nil, api.ErrArg)
	}
	checkTransform(t, change{cut(20000)}, change{keep(20000)}, change{cut(20000)}, nil, api.OK)
}

func TestAllSmallTransforms(t *testing.T) {
	for n := range 4 {
		second := allChanges(n, "b")
		for _, a := range allChanges(n, "a") {
			for _, b := range second {
				wantA, wantB, e := modelTransform(a, b)
				checkTransform(t, a, b, wantA, wantB, e)
			}
		}
	}
}

func TestMadeTransforms(t *testing.T) {
	m := newMaker(153)
	told := map[api.Errno]int{}
	for i := range 6000 {
		n := m.IntN(12)
		a, b := m.change(n), m.change(n)
		if i%4 == 0 {
			a = m.spoil(a)
		}
		if i%4 == 1 {
			b = m.spoil(b)
		}
		wantA, wantB, e := modelTransform(a, b)
		checkTransform(t, a, b, wantA, wantB, e)
		told[e]++
	}
	for _, e := range []api.Errno{api.OK, api.ErrArg, api.ErrLarge, api.ErrKind} {
		if told[e] < 200 {
			t.Errorf("%d was told %d times only", e, told[e])
		}
	}
}

// P2: nothing that is handed in is changed or kept, and answers are new memory.

// roomy copy of a change: behind it there is room, with something in it.
func roomy(c change) change {
	return append(slices.Clone(c), put("behind"), api.Part{Kind: 9, N: 9, S: "9"})[:len(c)]
}

func scribble(lists ...change) {
	for _, c := range lists {
		c = c[:cap(c)]
		for i := range c {
			c[i] = api.Part{Kind: -7, N: 7, S: "scribble"}
		}
	}
}

// answers of all calls that answer changes, for two changes of one text.
func answers(s string, a, b change) []change {
	n, _ := splice.Norm(a)
	back, _ := splice.Invert(s, a)
	c, d, _ := splice.Transform(a, b)
	one, _ := splice.Compose(a, d)
	other, _ := splice.Compose(b, c)
	return []change{n, back, c, d, one, other}
}

func copies(l []change) []change {
	var made []change
	for _, c := range l {
		made = append(made, slices.Clone(c))
	}
	return made
}

func same(a, b []change) bool { return slices.EqualFunc(a, b, slices.Equal) }

func TestMemory(t *testing.T) {
	m := newMaker(2)
	for i := range 3000 {
		s := m.text(m.IntN(12))
		a, b := roomy(m.change(len(s))), roomy(m.change(len(s)))
		if i%2 == 0 {
			// What is normal already is new memory too.
			n, _ := modelNorm(a)
			a = roomy(n)
		}
		wasA, wasB := slices.Clone(a[:len(a)+2]), slices.Clone(b[:len(b)+2])
		l := answers(s, a, b)
		splice.Sizes(a)
		splice.Apply(s, a)
		if !slices.Equal(a[:len(a)+2], wasA) || !slices.Equal(b[:len(b)+2], wasB) {
			t.Fatalf("%s or %s was changed", brief(wasA), brief(wasB))
		}
		want := copies(l)
		// One answer, scribbled over, shows nowhere else.
		for k := range l {
			scribble(l[k])
			if !same(l[k+1:], want[k+1:]) || !slices.Equal(a[:len(a)+2], wasA) || !slices.Equal(b[:len(b)+2], wasB) {
				t.Fatalf("answer %d of %s and %s shares memory", k, brief(wasA), brief(wasB))
			}
		}
		l = answers(s, a, b)
		scribble(a, b)
		if !same(l, want) {
			t.Fatalf("what was made of %s and %s hangs on what was handed in", brief(wasA), brief(wasB))
		}
	}
}
