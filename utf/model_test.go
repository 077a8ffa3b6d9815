package utf_test

// The promises once more, by the document's own formulas and without the library's decoder: what the tests hold package utf against.

func isScalar(n int) bool {
	return 0 <= n && n <= 0x10ffff && !(0xd800 <= n && n <= 0xdfff)
}

func code(n int) string {
	switch {
	case n < 0x80:
		return string([]byte{byte(n)})
	case n < 0x800:
		return string([]byte{byte(0xc0 + n/0x40), byte(0x80 + n%0x40)})
	case n < 0x10000:
		return string([]byte{byte(0xe0 + n/0x1000), byte(0x80 + n/0x40%0x40), byte(0x80 + n%0x40)})
	}
	return string([]byte{byte(0xf0 + n/0x40000), byte(0x80 + n/0x1000%0x40), byte(0x80 + n/0x40%0x40), byte(0x80 + n%0x40)})
}

// next turns the formula of each length round, and takes what comes out only if its code stands there.
func next(s string) (rune, int) {
	for i, lead := range []int{0, 0xc0, 0xe0, 0xf0} {
		size := i + 1
		if len(s) < size {
			break
		}
		n := int(s[0]) - lead
		for _, b := range []byte(s[1:size]) {
			n = n*0x40 + int(b) - 0x80
		}
		if isScalar(n) && code(n) == s[:size] {
			return rune(n), size
		}
	}
	return -1, min(len(s), 1)
}

// walk is a text gone through by next.
type walk struct {
	bad   int    // the first place at which no code begins, or -1
	runes []rune // -1 for each byte at which no code begins
	ends  []int  // where each of runes ends
	clean string
}

func walkOf(s string) walk {
	w := walk{bad: -1}
	for at := 0; at < len(s); {
		r, n := next(s[at:])
		if r < 0 {
			if w.bad < 0 {
				w.bad = at
			}
			w.clean += "\xef\xbf\xbd"
		} else {
			w.clean += s[at : at+n]
		}
		at += n
		w.runes = append(w.runes, r)
		w.ends = append(w.ends, at)
	}
	return w
}

// mixed is every row of up to four pieces, good ones and wrong ones: a few tens of thousands of texts.
func mixed() []string {
	pieces := []string{
		"a", "\x00", "\x7f", "\xc2\x80", "\u00e9", "\u20ac", "\xef\xbf\xbd", "\U0001f600", "\xf4\x8f\xbf\xbf",
		"\x80", "\xff", "\xc0\x80", "\xe2\x82", "\xef\xbf", "\xed\xa0\x80", "\xf0\x9f\x98", "\xf4\x90\x80\x80",
	}
	texts := []string{""}
	for from, size := 0, 1; size <= 4; size++ {
		to := len(texts)
		for _, s := range texts[from:to] {
			for _, p := range pieces {
				texts = append(texts, s+p)
			}
		}
		from = to
	}
	return texts
}
