package pack

import (
	"strings"

	"typecase/api"
)

// maxWithin: within how many lists and tables a value may stand. Good ones stand within far fewer; it is a bound for calls within calls.
const maxWithin = 1000

// reader of a value's bytes, from the front.
type reader struct {
	rest []byte
	// failed: these are no value's bytes.
	failed bool
	// count of the values that were begun.
	count int
}

// fail: nothing more is read.
func (r *reader) fail() {
	r.failed = true
	r.rest = nil
}

// byte at the front. Where there is none it is 0, which ends chains, lists and tables: so who reads on when the reader has failed comes to an end.
func (r *reader) byte() byte {
	if len(r.rest) == 0 {
		r.fail()
		return 0
	}
	c := r.rest[0]
	r.rest = r.rest[1:]
	return c
}

// value that stands within so many lists and tables.
func (r *reader) value(within int) api.Value {
	if within > maxWithin {
		r.fail()
		return api.Value{}
	}
	r.count++
	v := api.Value{Kind: int(r.byte()) - 1}
	switch v.Kind {
	case api.VNull:
	case api.VBool:
		v.N = int64(r.byte())
	case api.VInt:
		v.N = int64(turnWhole(r.number()))
	case api.VFloat:
		v.F = turnFractionBack(r.number())
	case api.VText:
		v.S = r.chain()
	case api.VList:
		v.L = parts(r, func() api.Value { return r.value(within + 1) })
	case api.VTable:
		v.E = parts(r, func() api.Entry {
			key := r.chain()
			return api.Entry{Key: key, V: r.value(within + 1)}
		})
	default:
		r.fail()
	}
	return v
}

// parts of the list or table that was begun last, each of them read by read. Few bytes may be many values, so all are read, but those that val.Check never comes to are not kept: it leaves off at a list that is too long, and at the first value of too many.
func parts[T any](r *reader, read func() T) []T {
	room := api.MaxList + 1
	if r.count > api.MaxNodes {
		room = 0
	}
	var l []T
	for r.hasPart() {
		part := read()
		if len(l) < room {
			l = append(l, part)
		}
	}
	return l
}

// hasPart: does the byte at the front say that an element or an entry follows, and not that there is no more?
func (r *reader) hasPart() bool {
	switch r.byte() {
	case partAhead:
		return true
	case partsEnd:
		return false
	}
	r.fail()
	return false
}

// number of eight bytes, the greatest first.
func (r *reader) number() uint64 {
	n := uint64(0)
	for range 8 {
		n = n<<8 | uint64(r.byte())
	}
	return n
}

// chain: the text of which it is.
func (r *reader) chain() string {
	var s strings.Builder
	for {
		c := r.byte()
		if c == 0 && !r.isInside() {
			return s.String()
		}
		s.WriteByte(c)
	}
}

// isInside: is a byte 0 that was read one of the text's own, and not the end of its chain?
func (r *reader) isInside() bool {
	switch r.byte() {
	case zeroInside:
		return true
	case zeroAtEnd:
		return false
	}
	r.fail()
	return false
}
