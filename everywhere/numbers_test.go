// Package everywhere tests what holds in every package of the program.
package everywhere

import (
	"testing"

	"typecase/api"
)

// P5: the document's section 'Words' tells errors and limits by their numbers.

func TestNumbersOfErrors(t *testing.T) {
	for want, got := range []api.Errno{
		api.OK, api.ErrArg, api.ErrLarge, api.ErrText, api.ErrForm, api.ErrDeep, api.ErrTwice, api.ErrRange,
		api.ErrNone, api.ErrThere, api.ErrKind, api.ErrType, api.ErrFit, api.ErrClash, api.ErrOrder, api.ErrState,
	} {
		if int(got) != want {
			t.Errorf("error %d has the number %d", want, got)
		}
	}
}

func TestLimits(t *testing.T) {
	for _, c := range []struct {
		name      string
		got, want int
	}{
		{"MaxShift", api.MaxShift, 4000},
		{"MaxPow", api.MaxPow, 1000},
		{"MaxDigits", api.MaxDigits, 1000},
		{"MaxNumber", api.MaxNumber, 80},
		{"MaxKey", api.MaxKey, 100},
		{"MaxSource", api.MaxSource, 20000},
		{"MaxDeep", api.MaxDeep, 20},
		{"MaxNodes", api.MaxNodes, 2000},
		{"MaxText", api.MaxText, 4000},
		{"MaxList", api.MaxList, 200},
		{"MaxParts", api.MaxParts, 400},
		{"MaxPair", api.MaxPair, 200},
		{"MaxDefs", api.MaxDefs, 50},
		{"MaxTypes", api.MaxTypes, 200},
		{"MaxLinks", api.MaxLinks, 100},
		{"MaxClients", api.MaxClients, 8},
		{"MaxUndo", api.MaxUndo, 20},
		{"MaxScript", api.MaxScript, 100},
		{"MaxWorkers", api.MaxWorkers, 16},
		{"MaxTasks", api.MaxTasks, 100},
	} {
		if c.got != c.want {
			t.Errorf("%s is %d, not %d", c.name, c.got, c.want)
		}
	}
}

func TestNumbersOfKinds(t *testing.T) {
	for _, c := range []struct {
		name  string
		first int
		kinds []int
	}{
		{"tokens", 1, []int{api.KBlank, api.KLine, api.KNote, api.KWord, api.KText, api.KMark, api.KBad}},
		{"nodes", 1, []int{api.NLeaf, api.NKey, api.NTable, api.NEntry, api.NList, api.NDoc}},
		{"values", 0, []int{api.VNull, api.VBool, api.VInt, api.VFloat, api.VText, api.VList, api.VTable}},
		{"updates", 1, []int{api.USet, api.UAdd, api.UDrop, api.UName}},
		{"parts", 1, []int{api.PKeep, api.PCut, api.PPut}},
		{"types", 1, []int{api.TAny, api.TNull, api.TBool, api.TInt, api.TFloat, api.TText, api.TOneOf, api.TList, api.TMap, api.TRecord, api.TUnion, api.TRef}},
		{"steps", 1, []int{api.MName, api.MDrop, api.MAdd, api.MText, api.MInt, api.MWrap, api.MTake}},
	} {
		for i, got := range c.kinds {
			if got != c.first+i {
				t.Errorf("kind %d of %s has the number %d", c.first+i, c.name, got)
			}
		}
	}
}
