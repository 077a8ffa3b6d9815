package edit

import (
	"typecase/api"
	"typecase/esc"
	"typecase/path"
	"typecase/show"
)

// What is put beside keys and values.
const (
	comma  = ","
	colon  = ":"
	spacer = " "
)

// swap: the bytes from one place up to another go, and others come there.
type swap struct {
	from, to int
	put      string
}

// parts of a change that makes these swaps, which stand in order, in a text of so many bytes.
func parts(size int, l []swap) []api.Part {
	var c []api.Part
	at := 0
	for _, w := range l {
		c = append(c,
			api.Part{Kind: api.PKeep, N: w.from - at},
			api.Part{Kind: api.PPut, S: w.put},
			api.Part{Kind: api.PCut, N: w.to - w.from})
		at = w.to
	}
	return append(c, api.Part{Kind: api.PKeep, N: size - at})
}

// swaps of an update that changes what the document means, and that upd.Apply takes: so what it leads to is there, and what it puts is good.
func (d *document) swaps(o api.Op) []swap {
	switch o.Kind {
	case api.USet:
		return []swap{d.instead(valueOf(d.thing(o.P)), line(o.V))}
	case api.UName:
		return []swap{d.instead(keyOf(d.thing(o.P)), key(o.Key))}
	case api.UDrop:
		return d.dropping(d.thing(o.P))
	}
	last := len(o.P) - 1
	return []swap{d.adding(valueOf(d.thing(o.P[:last])), o.P[last], o.V)}
}

// instead of a node's bytes, others.
func (d *document) instead(n api.Node, put string) swap {
	return swap{d.from(n), d.end(n), put}
}

func without(t api.Token) swap { return swap{from: t.At, to: t.End} }

func putAt(place int, put string) swap { return swap{place, place, put} }

func (d *document) dropping(thing api.Node) []swap {
	gone := d.instead(thing, "")
	if behind, ok := d.commaBehind(thing); ok {
		return []swap{gone, without(behind)}
	}
	if ahead, ok := d.commaAhead(thing); ok {
		return []swap{without(ahead), gone}
	}
	return []swap{gone}
}

// adding to a list, or a table. What comes last there comes behind what stands last in the text, whatever its key is.
func (d *document) adding(in api.Node, at api.Step, v api.Value) swap {
	x := told(at, v)
	if at.I != path.OfKey && at.I < len(in.Kids) {
		return putAt(d.from(in.Kids[at.I]), x+comma+spacer)
	}
	if len(in.Kids) == 0 {
		return putAt(d.tokens[in.At].End, x)
	}
	last := in.Kids[len(in.Kids)-1]
	if behind, ok := d.commaBehind(last); ok {
		return putAt(behind.End, spacer+x)
	}
	return putAt(d.end(last), comma+spacer+x)
}

// told as what is added at a step.
func told(at api.Step, v api.Value) string {
	if at.I == path.OfKey {
		return key(at.Key) + colon + spacer + line(v)
	}
	return line(v)
}

// line of a good value, which is not refused.
func line(v api.Value) string {
	s, _ := show.Line(v)
	return s
}

// key that is good, likewise.
func key(k string) string {
	s, _ := esc.Key(k)
	return s
}
