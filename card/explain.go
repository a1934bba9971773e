package card

import (
	"slices"

	"meterworks/api"
)

// with returns the walk with a repair.
func (w walk) with(x repair) walk {
	return walk{Rates: w.Rates, Readings: x.mended(w.Readings)}
}

func (w walk) isExplainedBy(x repair) bool { return w.with(x).allFit() }

// explanations returns the repairs that explain the readings, in their order.
func (w walk) explanations() []repair {
	return slices.Concat(w.swaps(), w.copies(), w.lates())
}

func (w walk) swaps() []repair {
	ofDay := map[int][]int{}
	for i, r := range w.Readings {
		ofDay[r.Day] = append(ofDay[r.Day], i)
	}
	var out []repair
	for a, r := range w.Readings {
		for _, b := range ofDay[r.Day] {
			x := swap{a, b}
			if a < b && areNeighbours(r.House, w.Readings[b].House) && w.isExplainedBy(x) {
				out = append(out, x)
			}
		}
	}
	return out
}

func areNeighbours(house, other int) bool { return house-other == 1 || other-house == 1 }

func (w walk) copies() []repair {
	var out []repair
	for a, before := range w.before() {
		x := copied{a}
		if before != none && w.Readings[before].Shows == w.Readings[a].Shows && w.isExplainedBy(x) {
			out = append(out, x)
		}
	}
	return out
}

func (w walk) lates() []repair {
	var out []repair
	for a, before := range w.before() {
		first := 0
		if before != none {
			first = w.Readings[before].Day + 1
		}
		by := bounds[days]{1, api.MaxLate}.cut(bounds[days]{1, days(w.Readings[a].Day - first)})
		by = by.narrowed(func(n days) bool { return w.isExplainedBy(late{a, bounds[days]{n, n}}) })
		if !by.isEmpty() {
			out = append(out, late{a, by})
		}
	}
	return out
}
