package path

import (
	"strings"

	"typecase/api"
	"typecase/esc"
	"typecase/num"
)

// OfKey is the I of a step to an entry.
const OfKey = -1

// maxPlace is the greatest I that is read.
const maxPlace = 1 << 62

// What a path's text is made of, beside keys and digits.
const (
	root        = "$"
	keyAhead    = "."
	placeAhead  = "["
	placeBehind = "]"
	quote       = `"`
)

// writeStep of a path that Check takes: so its key is not refused.
func writeStep(b *strings.Builder, step api.Step) {
	if step.I == OfKey {
		key, _ := esc.Key(step.Key)
		b.WriteString(keyAhead + key)
		return
	}
	b.WriteString(placeAhead + num.Text(int64(step.I)) + placeBehind)
}

// readSteps of a text: the one path whose text it may be, if there is any.
func readSteps(s string) ([]api.Step, bool) {
	rest, ok := strings.CutPrefix(s, root)
	var p []api.Step
	// One step too many is enough to see that there are too many.
	for ok && rest != "" && len(p) <= api.MaxDeep {
		var step api.Step
		step, rest, ok = cutStep(rest)
		p = append(p, step)
	}
	return p, ok
}

// cutStep off the front of s, and what is left.
func cutStep(s string) (api.Step, string, bool) {
	if key, ok := strings.CutPrefix(s, keyAhead); ok {
		return cutKey(key)
	}
	if place, ok := strings.CutPrefix(s, placeAhead); ok {
		return cutPlace(place)
	}
	return api.Step{}, "", false
}

func cutKey(s string) (api.Step, string, bool) {
	if strings.HasPrefix(s, quote) {
		said, size, e := esc.Unquote(s)
		return api.Step{Key: said, I: OfKey}, s[size:], e == api.OK
	}
	end := strings.IndexAny(s, keyAhead+placeAhead)
	if end < 0 {
		end = len(s)
	}
	return api.Step{Key: s[:end], I: OfKey}, s[end:], true
}

func cutPlace(s string) (api.Step, string, bool) {
	digits, rest, closed := strings.Cut(s, placeBehind)
	n, e := num.Read(digits)
	return api.Step{I: int(n)}, rest, closed && e == api.OK && 0 <= n && n <= maxPlace
}
