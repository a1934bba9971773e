package card

import (
	"slices"

	"meterworks/api"
)

// repair is a change of readings.
type repair interface {
	// mended returns readings with the change, and leaves those that are given as they are.
	mended([]api.Reading) []api.Reading
}

// The repairs name readings by their numbers. One that was late can be so by one of some numbers of days, and the least is taken.
type (
	swap   struct{ a, b int }
	copied struct{ a int }
	late   struct {
		a  int
		by bounds[days]
	}
)

func (x swap) mended(l []api.Reading) []api.Reading {
	out := copyOf(l)
	out[x.a].Shows, out[x.b].Shows = l[x.b].Shows, l[x.a].Shows
	return out
}

func (x copied) mended(l []api.Reading) []api.Reading {
	return slices.Delete(copyOf(l), x.a, x.a+1)
}

func (x late) mended(l []api.Reading) []api.Reading {
	out := copyOf(l)
	out[x.a].Day -= int(x.by.least)
	return out
}

func copyOf(l []api.Reading) []api.Reading {
	out := make([]api.Reading, len(l))
	copy(out, l)
	return out
}

// asRepair returns a repair as it is told.
func asRepair(x repair) api.Repair {
	switch x := x.(type) {
	case swap:
		return api.Repair{Kind: api.Swap, A: x.a, B: x.b}
	case copied:
		return api.Repair{Kind: api.Copied, A: x.a}
	case late:
		return api.Repair{Kind: api.Late, A: x.a, B: int(x.by.least), C: int(x.by.greatest)}
	}
	return api.Repair{}
}
