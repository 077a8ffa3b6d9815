package splice

import "typecase/api"

// reader of a normal change, which it uses up: of a part of which some bytes are taken the others are left in its place.
type reader struct{ left []api.Part }

// next part, or what is left of it; behind the last one a part of no Kind.
func (r *reader) next() api.Part {
	if len(r.left) == 0 {
		return api.Part{}
	}
	return r.left[0]
}

// take so many bytes of the next part.
func (r *reader) take(n int) {
	p := &r.left[0]
	if p.Kind == api.PPut {
		p.S = p.S[n:]
	} else {
		p.N -= n
	}
	if size(*p) == 0 {
		r.left = r.left[1:]
	}
}

// done with both?
func done(a, b reader) bool { return len(a.left)+len(b.left) == 0 }

// size of a part in bytes, whatever becomes of them.
func size(p api.Part) int { return len(p.S) + p.N }

// compose two normal changes, which are used up, of which b goes over what a makes.
func compose(a, b []api.Part) []api.Part {
	first, second := reader{a}, reader{b}
	var w writer
	for !done(first, second) {
		p, q := first.next(), second.next()
		switch {
		case q.Kind == api.PPut:
			w.put(q.S)
			second.take(size(q))
		case p.Kind == api.PCut:
			// The second one knows nothing of these bytes.
			w.cut(p.N)
			first.take(size(p))
		default:
			n := min(size(p), size(q))
			composeBytes(&w, p, q, n)
			first.take(n)
			second.take(n)
		}
	}
	return w.change()
}

// composeBytes: the next n, which p keeps or puts, and q keeps or cuts.
func composeBytes(w *writer, p, q api.Part, n int) {
	switch {
	case p.Kind == api.PKeep && q.Kind == api.PKeep:
		w.keep(n)
	case p.Kind == api.PKeep:
		w.cut(n)
	case q.Kind == api.PKeep:
		w.put(p.S[:n])
	}
}

// transform two normal changes, which are used up, of one text.
func transform(a, b []api.Part) ([]api.Part, []api.Part) {
	first, second := reader{a}, reader{b}
	var c, d writer
	for !done(first, second) {
		p, q := first.next(), second.next()
		switch {
		// Both readers stand at one place of the text: so what the first one puts there comes ahead.
		case p.Kind == api.PPut:
			c.put(p.S)
			d.keep(size(p))
			first.take(size(p))
		case q.Kind == api.PPut:
			d.put(q.S)
			c.keep(size(q))
			second.take(size(q))
		default:
			n := min(size(p), size(q))
			transformBytes(&c, &d, p, q, n)
			first.take(n)
			second.take(n)
		}
	}
	return c.change(), d.change()
}

// transformBytes: the next n, which p keeps or cuts, and q too.
func transformBytes(c, d *writer, p, q api.Part, n int) {
	switch {
	case p.Kind == api.PKeep && q.Kind == api.PKeep:
		c.keep(n)
		d.keep(n)
	case q.Kind == api.PKeep:
		c.cut(n)
	case p.Kind == api.PKeep:
		d.cut(n)
	}
}
