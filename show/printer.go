package show

import (
	"typecase/api"
	"typecase/esc"
	"typecase/float"
	"typecase/num"
)

// The forms that a document may have.
const (
	oneLine = iota
	manyLines
)

// printer of good values, on a page of its own: so nothing that it asks for can be refused, and none is so deep that calls within calls would not do.
type printer struct {
	page
	form int
}

// document of a value.
func (p *printer) document(v api.Value) {
	p.value(v)
	if p.form == manyLines {
		p.endLine()
	}
}

func (p *printer) value(v api.Value) {
	switch v.Kind {
	case api.VList:
		p.between("[", "]", len(v.L), func(i int) { p.value(v.L[i]) })
	case api.VTable:
		p.between("{", "}", len(v.E), func(i int) { p.entry(v.E[i]) })
	default:
		p.write(leaf(v))
	}
}

func (p *printer) entry(e api.Entry) {
	key, _ := esc.Key(e.Key)
	p.write(key)
	p.write(": ")
	p.value(e.V)
}

// between two marks so many parts, each of which tell tells by its number.
func (p *printer) between(first, last string, count int, tell func(i int)) {
	p.write(first)
	if p.form == manyLines {
		p.onLines(count, tell)
	} else {
		p.inLine(count, tell)
	}
	p.write(last)
}

// inLine with all that stands around them.
func (p *printer) inLine(count int, tell func(i int)) {
	for i := range count {
		if i > 0 {
			p.write(", ")
		}
		tell(i)
	}
}

// onLines of their own, and one begun for what stands behind; but none, if there are no parts.
func (p *printer) onLines(count int, tell func(i int)) {
	if count == 0 {
		return
	}
	p.within++
	for i := range count {
		p.newLine()
		tell(i)
		p.write(",")
	}
	p.within--
	p.newLine()
}

// leaf: a value that has no parts, as it is told in every form.
func leaf(v api.Value) string {
	switch v.Kind {
	case api.VBool:
		if v.N == 1 {
			return "true"
		}
		return "false"
	case api.VInt:
		return num.Text(v.N)
	case api.VFloat:
		return float.Text(v.F)
	case api.VText:
		quoted, _ := esc.Quote(v.S)
		return quoted
	}
	return "null"
}
