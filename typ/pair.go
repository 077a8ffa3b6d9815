package typ

import (
	"slices"

	"typecase/api"
	"typecase/val"
)

// pair of types that stand at one place in two.
type pair struct{ a, b *api.Type }

// sameAlone: are they the same without their parts within?
func (p pair) sameAlone() bool {
	a, b := p.a, p.b
	return a.Kind == b.Kind && a.Lo == b.Lo && a.Hi == b.Hi && a.Name == b.Name &&
		slices.Equal(a.Texts, b.Texts) && len(a.T) == len(b.T) && slices.EqualFunc(a.F, b.F, sameField)
}

// sameField without its type?
func sameField(f, g api.Field) bool {
	return f.Name == g.Name && f.Opt == g.Opt && f.HasDef == g.HasDef && val.Compare(f.Def, g.Def) == 0
}

// appendParts within both, side by side. They have as many.
func (p pair) appendParts(l []pair) []pair {
	for i := range p.a.T {
		l = append(l, pair{&p.a.T[i], &p.b.T[i]})
	}
	for i := range p.a.F {
		l = append(l, pair{&p.a.F[i].T, &p.b.F[i].T})
	}
	return l
}
