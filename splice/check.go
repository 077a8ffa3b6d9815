package splice

import "typecase/api"

// check: is a change good?
func check(c []api.Part) api.Errno {
	if len(c) > api.MaxParts {
		return api.ErrLarge
	}
	for _, p := range c {
		if e := checkPart(p); e != api.OK {
			return e
		}
	}
	if goes, makes := sizes(c); goes > api.MaxSource || makes > api.MaxSource {
		return api.ErrLarge
	}
	return api.OK
}

func checkPart(p api.Part) api.Errno {
	switch {
	case p.Kind != api.PKeep && p.Kind != api.PCut && p.Kind != api.PPut:
		return api.ErrKind
	case p.N < 0 || p.N > api.MaxSource:
		return api.ErrArg
	case p.Kind == api.PPut && p.N != 0:
		return api.ErrArg
	case len(p.S) > api.MaxSource:
		return api.ErrLarge
	case p.Kind != api.PPut && p.S != "":
		return api.ErrArg
	}
	return api.OK
}

// checkOver: is a change good, and is it one of s?
func checkOver(s string, c []api.Part) api.Errno {
	goes, _, e := Sizes(c)
	if e != api.OK {
		return e
	}
	if goes != len(s) {
		return api.ErrArg
	}
	return api.OK
}

// sizes of the text that a change goes over, and of the one that it makes.
func sizes(c []api.Part) (int, int) {
	kept, cut, put := 0, 0, 0
	for _, p := range c {
		switch p.Kind {
		case api.PKeep:
			kept += p.N
		case api.PCut:
			cut += p.N
		case api.PPut:
			put += len(p.S)
		}
	}
	return kept + cut, kept + put
}
