package splice

import "typecase/api"

// writer of a normal change. What is put and cut is held back until something is kept, for only then is it known how much of either stands there.
type writer struct {
	parts   []api.Part
	putting []byte
	cutting int
}

func (w *writer) add(p api.Part) {
	switch p.Kind {
	case api.PKeep:
		w.keep(p.N)
	case api.PCut:
		w.cut(p.N)
	case api.PPut:
		w.put(p.S)
	}
}

func (w *writer) cut(n int) { w.cutting += n }

func (w *writer) put(s string) { w.putting = append(w.putting, s...) }

func (w *writer) keep(n int) {
	if n == 0 {
		return
	}
	w.settle()
	if last := len(w.parts) - 1; last >= 0 && w.parts[last].Kind == api.PKeep {
		w.parts[last].N += n
		return
	}
	w.parts = append(w.parts, api.Part{Kind: api.PKeep, N: n})
}

// settle what was held back.
func (w *writer) settle() {
	if len(w.putting) > 0 {
		w.parts = append(w.parts, api.Part{Kind: api.PPut, S: string(w.putting)})
	}
	if w.cutting > 0 {
		w.parts = append(w.parts, api.Part{Kind: api.PCut, N: w.cutting})
	}
	w.putting, w.cutting = nil, 0
}

// change that was written; the last call of a writer.
func (w *writer) change() []api.Part {
	w.settle()
	return w.parts
}
