package val

import (
	"typecase/api"
	"typecase/float"
	"typecase/utf"
)

// noNumber: the one fraction of no number that a good value may have.
const noNumber = 0x7ff8000000000001

// isNoNumber is what float.Parts tells third of no number.
const isNoNumber = 2

// checkAlone a value without its parts; the keys of its entries are its own.
func checkAlone(v *api.Value) api.Errno {
	switch {
	case !isOfItsKind(v):
		return api.ErrKind
	case len(v.S) > api.MaxText || len(v.L) > api.MaxList || len(v.E) > api.MaxList:
		return api.ErrLarge
	case utf.Bad(v.S) >= 0:
		return api.ErrText
	}
	return checkKeys(v.E)
}

// isOfItsKind: has v, beside what its Kind may have, nothing?
func isOfItsKind(v *api.Value) bool {
	beside := *v
	switch v.Kind {
	case api.VNull:
	case api.VBool:
		if v.N != 0 && v.N != 1 {
			return false
		}
		beside.N = 0
	case api.VInt:
		beside.N = 0
	case api.VFloat:
		if _, _, kind := float.Parts(v.F); kind == isNoNumber && v.F != noNumber {
			return false
		}
		beside.F = 0
	case api.VText:
		beside.S = ""
	case api.VList:
		beside.L = nil
	case api.VTable:
		beside.E = nil
	default:
		return false
	}
	return beside.N == 0 && beside.F == 0 && beside.S == "" && len(beside.L) == 0 && len(beside.E) == 0
}

func checkKeys(l []api.Entry) api.Errno {
	for i, e := range l {
		switch {
		case len(e.Key) > api.MaxKey:
			return api.ErrLarge
		case utf.Bad(e.Key) >= 0:
			return api.ErrText
		case i > 0 && e.Key <= l[i-1].Key:
			return api.ErrOrder
		}
	}
	return api.OK
}
