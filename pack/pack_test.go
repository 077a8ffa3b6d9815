package pack_test

import (
	"bytes"
	"fmt"
	"math"
	"runtime"
	"slices"
	"strings"
	"testing"

	"typecase/api"
	"typecase/pack"
	"typecase/val"
)

// P100: what bytes are made of a value.

// each: a value of each kind and of each edge, and its bytes.
func each() []packed {
	return []packed{
		{"\x01", null()},
		{"\x02\x00", boolean(0)},
		{"\x02\x01", boolean(1)},
		{"\x03\x80\x00\x00\x00\x00\x00\x00\x00", whole(0)},
		{"\x03\x80\x00\x00\x00\x00\x00\x00\x01", whole(1)},
		{"\x03\x7f\xff\xff\xff\xff\xff\xff\xff", whole(-1)},
		{"\x03\x80\x00\x00\x00\x00\x00\x01\x00", whole(256)},
		{"\x03\x81\x02\x03\x04\x05\x06\x07\x08", whole(0x0102030405060708)},
		{"\x03\xff\xff\xff\xff\xff\xff\xff\xff", whole(math.MaxInt64)},
		{"\x03\x00\x00\x00\x00\x00\x00\x00\x00", whole(math.MinInt64)},
		{"\x04\x80\x00\x00\x00\x00\x00\x00\x00", fraction(0)},
		{"\x04\x7f\xff\xff\xff\xff\xff\xff\xff", fraction(1 << 63)},
		{"\x04\x80\x00\x00\x00\x00\x00\x00\x01", fraction(1)},
		{"\x04\x7f\xff\xff\xff\xff\xff\xff\xfe", fraction(1<<63 | 1)},
		{"\x04\xbf\xf0\x00\x00\x00\x00\x00\x00", number(1)},
		{"\x04\x40\x0f\xff\xff\xff\xff\xff\xff", number(-1)},
		{"\x04\xff\xef\xff\xff\xff\xff\xff\xff", number(math.MaxFloat64)},
		{"\x04\xff\xf0\x00\x00\x00\x00\x00\x00", number(math.Inf(1))},
		{"\x04\x00\x0f\xff\xff\xff\xff\xff\xff", number(math.Inf(-1))},
		{"\x04\xff\xf8\x00\x00\x00\x00\x00\x01", fraction(0x7ff8000000000001)},
		{"\x05\x00\x00", text("")},
		{"\x05a\x00\x00", text("a")},
		{"\x05\x00\xff\x00\x00", text("\x00")},
		{"\x05\x00\xff\x00\xff\x00\x00", text("\x00\x00")},
		{"\x05a\x00\xff\x01\x00\x00", text("a\x00\x01")},
		{"\x05\xc3\xbf\x00\xff\xc3\xbf\x00\x00", text("ÿ\x00ÿ")},
		{"\x06\x00", list()},
		{"\x06\x01\x01\x00", list(null())},
		{"\x06\x01\x06\x00\x00", list(list())},
		{"\x06\x01\x01\x01\x02\x00\x01\x05\x00\x00\x00", list(null(), boolean(0), text(""))},
		{"\x07\x00", table()},
		{"\x07\x01\x00\x00\x01\x00", table(entry("", null()))},
		{"\x07\x01\x00\xff\x00\x00\x01\x00", table(entry("\x00", null()))},
		{"\x07\x01a\x00\x00\x05b\x00\x00\x01aa\x00\x00\x06\x00\x00", table(entry("a", text("b")), entry("aa", list()))},
		{"\x07\x01a\x00\x00\x07\x01b\x00\x00\x02\x01\x00\x00", table(entry("a", table(entry("b", boolean(1)))))},
	}
}

func TestEachKind(t *testing.T) {
	for _, p := range each() {
		if b, e := pack.Pack(p.v); string(b) != p.bytes || e != api.OK {
			t.Errorf("Pack(%v) is %q and %d, not %q", p.v, b, e, p.bytes)
		}
		if v, e := pack.Unpack([]byte(p.bytes)); !same(v, p.v) || e != api.OK {
			t.Errorf("Unpack(%q) is %v and %d, not %v", p.bytes, v, e, p.v)
		}
		if modelPack(p.v) != p.bytes {
			t.Errorf("the reference makes %q of %v", modelPack(p.v), p.v)
		}
	}
}

// wide: a table of so many entries.
func wide(entries int) api.Value {
	v := table()
	for i := range entries {
		v.E = append(v.E, entry(fmt.Sprintf("%03d", i), null()))
	}
	return v
}

// limits: values that are as great as good ones may be, or one more, and what val.Check has to say of them.
func limits() []struct {
	v    api.Value
	want api.Errno
} {
	return []struct {
		v    api.Value
		want api.Errno
	}{
		{text(strings.Repeat("a", 4000)), api.OK}, {text(strings.Repeat("a", 4001)), api.ErrLarge},
		{text(strings.Repeat("\x00", 4000)), api.OK}, {text(strings.Repeat("\x00", 4001)), api.ErrLarge},
		{text(strings.Repeat("\xff", 4000)), api.ErrText}, {text(strings.Repeat("\xff", 4001)), api.ErrLarge},
		{table(entry(strings.Repeat("\x00", 100), null())), api.OK}, {table(entry(strings.Repeat("\x00", 101), null())), api.ErrLarge},
		{table(entry(strings.Repeat("\xff", 100), null())), api.ErrText}, {table(entry(strings.Repeat("\xff", 101), null())), api.ErrLarge},
		{noughts(200), api.OK}, {noughts(201), api.ErrLarge}, {noughts(202), api.ErrLarge},
		{wide(200), api.OK}, {wide(201), api.ErrLarge},
		{linedUp(2000), api.OK}, {linedUp(2001), api.ErrLarge}, {linedUp(2002), api.ErrLarge},
		{nested(19, null()), api.OK}, {nested(20, null()), api.ErrDeep}, {nested(19, list()), api.OK}, {nested(19, list(null())), api.ErrDeep},
		{boolean(2), api.ErrKind}, {boolean(255), api.ErrKind}, {list(boolean(2), text("\xff")), api.ErrKind}, {list(text("\xff"), boolean(2)), api.ErrText},
		{fraction(0x7ff8000000000000), api.ErrKind}, {fraction(0xfff8000000000001), api.ErrKind}, {fraction(math.MaxUint64), api.ErrKind},
		{text("\xff"), api.ErrText}, {text("\x00\xff"), api.ErrText}, {text("\xff\x00"), api.ErrText}, {text("a\xc3"), api.ErrText},
		{table(entry("b", null()), entry("a", null())), api.ErrOrder}, {table(entry("a", null()), entry("a", null())), api.ErrOrder}, {table(entry("a\x00", null()), entry("a", null())), api.ErrOrder},
		// What is told first: of the value itself ahead of its parts, and in order.
		{list(append(noughts(200).L, text("\xff"))...), api.ErrLarge}, {list(append([]api.Value{text("\xff")}, noughts(200).L...)...), api.ErrLarge},
		{table(append([]api.Entry{entry("\xff", null())}, wide(200).E...)...), api.ErrLarge},
		{table(entry("a", text("\xff")), entry("a", null())), api.ErrOrder},
		{list(text("\xff"), linedUp(2000)), api.ErrText}, {list(linedUp(2000), text("\xff")), api.ErrLarge}, {list(linedUp(1998), text("\xff")), api.ErrText}, {list(linedUp(1999), text("\xff")), api.ErrLarge},
		// The elements of the greater list end far behind the last value that counts.
		{list(linedUp(1900), list(append([]api.Value{text("\xff")}, noughts(300).L...)...)), api.ErrLarge},
		{list(linedUp(1997), list(append([]api.Value{text("\xff")}, noughts(200).L...)...)), api.ErrLarge},
		{list(linedUp(1900), list(append([]api.Value{text("\xff")}, noughts(199).L...)...)), api.ErrText},
		{list(linedUp(1997), list(append([]api.Value{text("\xff")}, noughts(199).L...)...)), api.ErrText},
		{list(linedUp(1900), table(append(wide(201).E, entry("\xff", null()))...)), api.ErrLarge},
		{list(linedUp(1900), table(append(wide(199).E, entry("\xff", null()))...)), api.ErrText},
	}
}

func TestLimits(t *testing.T) {
	for i, c := range limits() {
		told := fmt.Sprintf("%d: %.100s", i, fmt.Sprint(c.v))
		b, e := pack.Pack(c.v)
		if e != c.want || e != api.OK && len(b) > 0 {
			t.Errorf("%s: Pack answers %d bytes and %d, not %d", told, len(b), e, c.want)
		}
		if e == api.OK && string(b) != modelPack(c.v) {
			t.Errorf("%s: Pack answers other bytes", told)
		}
		v, e := pack.Unpack([]byte(modelPack(c.v)))
		if e != c.want || e != api.OK && !same(v, null()) || e == api.OK && !same(v, c.v) {
			t.Errorf("%s: Unpack answers %.100s and %d, not %d", told, fmt.Sprint(v), e, c.want)
		}
	}
}

// Values that have fields beside their Kind's, or a Kind that is none, are of no bytes at all.
func TestPackOfWrongKinds(t *testing.T) {
	for _, v := range []api.Value{
		{Kind: -1}, {Kind: 7}, {Kind: 255}, {Kind: 256}, {Kind: math.MinInt}, {Kind: math.MaxInt},
		{N: 1}, {F: 1}, {S: "a"}, {L: []api.Value{{}}}, {E: []api.Entry{{}}},
		{Kind: api.VBool, N: -1}, {Kind: api.VBool, N: 256}, {Kind: api.VBool, N: 257}, {Kind: api.VInt, F: 1}, {Kind: api.VFloat, N: 1}, {Kind: api.VText, L: []api.Value{{}}}, {Kind: api.VList, S: "a"}, {Kind: api.VTable, L: []api.Value{{}}},
	} {
		for _, around := range []api.Value{v, list(null(), v), table(entry("a", v))} {
			if b, e := pack.Pack(around); e != api.ErrKind || len(b) > 0 {
				t.Errorf("Pack(%v) is %q and %d", around, b, e)
			}
		}
	}
	empty := api.Value{Kind: api.VText, S: "a", L: []api.Value{}, E: []api.Entry{}}
	if b, e := pack.Pack(empty); string(b) != "\x05a\x00\x00" || e != api.OK {
		t.Errorf("with lists of nothing it is %q and %d", b, e)
	}
}

func TestMadeValues(t *testing.T) {
	m := newMaker(100)
	for i := range 20000 {
		v := m.good(1 + i%8)
		b, e := pack.Pack(v)
		if want := modelPack(v); string(b) != want || e != api.OK {
			t.Fatalf("Pack(%v) is %q and %d, not %q", v, b, e, want)
		}
		if w, e := pack.Unpack(b); !same(v, w) || e != api.OK {
			t.Fatalf("Unpack(%q) is %v and %d, not %v", b, w, e, v)
		}
	}
}

func TestSpoiledValues(t *testing.T) {
	m := newMaker(101)
	for i := range 4000 {
		v := m.good(1 + i%8)
		for range 1 + m.IntN(3) {
			m.spoil(&v)
		}
		want := val.Check(v)
		b, e := pack.Pack(v)
		if e != want || e != api.OK && b != nil || e == api.OK && string(b) != modelPack(v) {
			t.Fatalf("Pack(%.500s) is %.500q and %d, not %d", fmt.Sprint(v), b, e, want)
		}
		w, e := pack.Unpack([]byte(modelPack(v)))
		if e != want || e != api.OK && !same(w, null()) || e == api.OK && !same(w, v) {
			t.Fatalf("of the bytes of %.500s Unpack answers %.500s and %d, not %d", fmt.Sprint(v), fmt.Sprint(w), e, want)
		}
	}
}

// The bytes stand as the values do, and none is the beginning of another's.
func TestBytesStandAsValuesDo(t *testing.T) {
	m := newMaker(102)
	var all []api.Value
	for _, p := range each() {
		all = append(all, p.v)
	}
	for _, s := range texts() {
		all = append(all, text(s), list(text(s)), list(text(s), null()), table(entry(s, null())), table(entry(s, null()), entry(s+"\x00", null())), table(entry(s, text(s))))
	}
	for _, f := range fractions() {
		all = append(all, fraction(f))
	}
	for _, n := range wholes() {
		all = append(all, whole(n))
	}
	for i := range 500 {
		all = append(all, m.good(1+i%5))
	}
	for _, a := range all {
		x, _ := pack.Pack(a)
		for _, b := range all {
			y, _ := pack.Pack(b)
			if c, want := bytes.Compare(x, y), val.Compare(a, b); c != want || c != 0 && bytes.HasPrefix(x, y) {
				t.Fatalf("%v and %v stand as %d, and their bytes %q and %q as %d", a, b, want, x, y, c)
			}
		}
	}
}

// P101: what is the bytes of a value.

// hold Unpack's answer against what the rules make of which value.
func hold(t *testing.T, b string, isOne bool, v api.Value) {
	t.Helper()
	want := api.ErrForm
	if isOne {
		want = val.Check(v)
	}
	if want != api.OK {
		v = null()
	}
	if w, e := pack.Unpack([]byte(b)); e != want || !same(w, v) {
		t.Fatalf("Unpack(%.500q) is %.500s and %d, not %.500s and %d", b, fmt.Sprint(w), e, fmt.Sprint(v), want)
	}
}

func TestEachShortText(t *testing.T) {
	for _, c := range []struct {
		signs  string
		length int
	}{{"\x00\x01\x02\x03\x05\x06\x07\xff", 6}, {"\x00\x01\x02\x05\x06\xff", 7}, {"\x00\x01\x07\xff", 9}, {"\x00\x01\x06", 11}, {allBytes(), 2}} {
		made := map[string]api.Value{}
		for length := 1; length <= c.length; length++ {
			for _, p := range (counter{c.signs}).values(length) {
				made[p.bytes] = p.v
			}
		}
		eachText(c.signs, c.length, func(s string) {
			v, isOne := made[s]
			hold(t, s, isOne, v)
			if w, behind, ok := modelUnpack(s, 0); isOne != (ok && behind == "") || isOne && !same(v, w) {
				t.Fatalf("the reference reads %q as %v and %v", s, w, ok)
			}
		})
	}
}

// allBytes there are.
func allBytes() string {
	var b [256]byte
	for i := range b {
		b[i] = byte(i)
	}
	return string(b[:])
}

// eachText of these signs, of at most so many.
func eachText(signs string, length int, use func(string)) {
	var longer func(s string)
	longer = func(s string) {
		use(s)
		if len(s) < length {
			for i := range len(signs) {
				longer(s + signs[i:i+1])
			}
		}
	}
	longer("")
}

func TestWrongForms(t *testing.T) {
	for _, b := range []string{
		"", "\x00", "\x08", "\x09", "\xff", "a", "\x01\x00", "\x01\x01", "\x02", "\x02\x00\x00",
		"\x03", "\x03\x80\x00\x00\x00\x00\x00\x00", "\x03\x80\x00\x00\x00\x00\x00\x00\x00\x00", "\x04", "\x04\x80\x00\x00\x00\x00\x00\x00", "\x04\x80\x00\x00\x00\x00\x00\x00\x00\x00",
		"\x05", "\x05\x00", "\x05a", "\x05a\x00", "\x05a\x00\xff", "\x05a\x00\xff\x00", "\x05a\x00\x01\x00\x00", "\x05a\x00\xfe\x00\x00", "\x05a\x00b\x00\x00", "\x05\x00\x00\x00", "\x05\x00\x00\xff\x00\x00",
		"\x06", "\x06\x01", "\x06\x01\x00", "\x06\x01\x01", "\x06\x02", "\x06\x02\x01\x00", "\x06\xff\x01\x00", "\x06\x00\x00", "\x06\x01\x01\x02\x00", "\x06\x01\x08\x00",
		"\x07", "\x07\x01", "\x07\x01\x00", "\x07\x01\x00\x00", "\x07\x01\x00\x00\x01", "\x07\x01\x00\x01\x01\x00", "\x07\x02\x00\x00\x01\x00", "\x07\x01\x00\x00\x00", "\x07\x01\x00\x00\x08\x00", "\x07\x00\x00", "\x07\x01a\x00\x00\x01\x01",
		// What is wrong in the values themselves is told behind that.
		"\x02\x02\x00", "\x06\x01\x02\x02", "\x05\xff", "\x05\xff\x00\x00\x00", "\x06\x01\x05\xff\x00\x00\x01", "\x07\x01b\x00\x00\x01\x01a\x00\x00\x01", "\x06" + strings.Repeat("\x01\x01", 3000), "\x06" + strings.Repeat("\x01\x01", 3000) + "\x02",
		"\x05" + strings.Repeat("a", 5000), strings.Repeat("\x06\x01", 30) + "\x01" + strings.Repeat("\x00", 29), strings.Repeat("\x06\x01", 30) + "\x01" + strings.Repeat("\x00", 31),
	} {
		if v, e := pack.Unpack([]byte(b)); e != api.ErrForm || !same(v, null()) {
			t.Errorf("Unpack(%.100q) is %v and %d", b, v, e)
		}
	}
	if v, e := pack.Unpack(nil); e != api.ErrForm || !same(v, null()) {
		t.Errorf("Unpack of nothing is %v and %d", v, e)
	}
}

// Of whichever value: no beginning of its bytes is a value's, and nothing is with a byte behind it.
func TestCutAndLongerBytes(t *testing.T) {
	m := newMaker(103)
	for i := range 300 {
		v := m.good(1 + i%6)
		if i%5 == 0 {
			m.spoil(&v)
		}
		b := modelPack(v)
		for at := range min(len(b), 60) {
			hold(t, b[:at], false, null())
			hold(t, b[:len(b)-1-at], false, null())
		}
		for _, c := range []byte{0, 1, 2, 5, 6, 255} {
			hold(t, b+string([]byte{c}), false, null())
		}
	}
}

func TestChangedBytes(t *testing.T) {
	m := newMaker(104)
	for i := range 30000 {
		b := []byte(modelPack(m.good(1 + i%7)))
		for range 1 + m.IntN(2) {
			at := m.IntN(len(b))
			switch m.IntN(3) {
			case 0:
				b[at] = pick(m, []byte{0, 1, 2, 3, 4, 5, 6, 7, 8, 255, byte(m.IntN(256))})
			case 1:
				b = slices.Insert(b, at, pick(m, []byte{0, 1, 2, 5, 6, 7, 255}))
			default:
				b = append(slices.Delete(b, at, at+1), 0)
			}
		}
		v, behind, ok := modelUnpack(string(b), 0)
		hold(t, string(b), ok && behind == "", v)
	}
}

// What is within 1000 lists and tables has a form, what is within 1001 has none.
func TestWithinMany(t *testing.T) {
	for name, ahead := range map[string]func(i int) string{
		"lists":  func(int) string { return "\x06\x01" },
		"tables": func(int) string { return "\x07\x01k\x00\x00" },
		"both":   func(i int) string { return []string{"\x06\x01", "\x07\x01\x00\x00"}[i%2] },
		"second": func(int) string { return "\x06\x01\x01\x01" },
	} {
		around := func(many int, inside string) string {
			var b strings.Builder
			for i := range many {
				b.WriteString(ahead(i))
			}
			return b.String() + inside + strings.Repeat("\x00", many)
		}
		for many, want := range map[int]api.Errno{18: api.OK, 19: api.OK, 20: api.ErrDeep, 21: api.ErrDeep, 999: api.ErrDeep, 1000: api.ErrDeep, 1001: api.ErrForm, 1002: api.ErrForm, 5000: api.ErrForm, 300000: api.ErrForm} {
			for _, inside := range []string{"\x01", "\x02\x00", "\x05\x00\x00", "\x06\x00", "\x07\x00"} {
				if v, e := pack.Unpack([]byte(around(many, inside))); e != want || e == api.OK && modelPack(v) != around(many, inside) || e != api.OK && !same(v, null()) {
					t.Errorf("%q within %d %s: %d, not %d", inside, many, name, e, want)
				}
			}
		}
		// It counts how many are around one, not how many there are.
		if _, e := pack.Unpack([]byte("\x06" + strings.Repeat("\x01"+around(1, "\x01"), 1500) + "\x00")); e != api.ErrLarge {
			t.Errorf("1500 %s side by side: %d", name, e)
		}
		if _, e := pack.Unpack([]byte("\x06\x01" + around(999, "\x01") + "\x01" + around(999, "\x01") + "\x00")); e != api.ErrDeep {
			t.Errorf("twice 1000 %s: %d", name, e)
		}
	}
}

// Few bytes may be many values: these are not all kept, and nothing else is told.
func TestManyValues(t *testing.T) {
	const many = 3000000
	flat := "\x06" + strings.Repeat("\x01\x01", many) + "\x00"
	entries := "\x07" + strings.Repeat("\x01\x00\x00\x01", many) + "\x00"
	hundreds := "\x06" + strings.Repeat("\x01\x06"+strings.Repeat("\x01\x01", 100)+"\x00", 150) + "\x00"
	grid := "\x06" + strings.Repeat("\x01"+hundreds, 150) + "\x00"
	for _, b := range []string{flat, entries, grid} {
		for behind, want := range map[string]api.Errno{"": api.ErrLarge, "\x00": api.ErrForm} {
			input := []byte(b + behind)
			var ahead, after runtime.MemStats
			runtime.ReadMemStats(&ahead)
			v, e := pack.Unpack(input)
			runtime.ReadMemStats(&after)
			if e != want || !same(v, null()) {
				t.Errorf("%.20q of %d bytes: %d, not %d", b, len(b), e, want)
			}
			if after.TotalAlloc-ahead.TotalAlloc > 4<<20 {
				t.Errorf("%.20q of %d bytes: %d bytes were taken for its values", b, len(b), after.TotalAlloc-ahead.TotalAlloc)
			}
		}
	}
}

// P2: nothing that is handed in is changed or kept, and answers are new memory.
func TestAnswersAreNewMemory(t *testing.T) {
	m := newMaker(2)
	for i := range 2000 {
		v := m.good(1 + i%7)
		was := bare(v)
		b, _ := pack.Pack(v)
		c, _ := pack.Pack(v)
		want := string(c)
		for k := range b[:cap(b)] {
			b[:cap(b)][k] = 77
		}
		if !same(v, was) || string(c) != want {
			t.Fatalf("Pack(%v) shares its answer", was)
		}
		room := append([]byte(want), "room"...)
		given := room[:len(want)]
		w, _ := pack.Unpack(given)
		x, _ := pack.Unpack(given)
		if string(room) != want+"room" {
			t.Fatalf("Unpack(%q) changes what it is given", want)
		}
		for k := range room {
			room[k] = 77
		}
		if !same(w, was) {
			t.Fatalf("what Unpack(%q) answers hangs on what it was given", want)
		}
		scribble(&w)
		if !same(x, was) {
			t.Fatalf("two answers of Unpack(%q) share memory", want)
		}
	}
}

// Parts that have the same bytes have memory of their own all the same.
func TestPartsShareNoMemory(t *testing.T) {
	part := list(list(null(), null(), null()), table(entry("a", list(null()))))
	v, e := pack.Unpack([]byte(modelPack(list(part, part, part))))
	if e != api.OK {
		t.Fatal(e)
	}
	scribble(&v.L[1])
	if !same(v.L[0], part) || !same(v.L[2], part) {
		t.Error("parts share memory")
	}
	inner := v.L[0].L
	scribble(&inner[0])
	if !same(inner[1], part.L[1]) {
		t.Error("parts of a part share memory")
	}
}
