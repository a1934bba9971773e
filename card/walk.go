package card

import (
	"cmp"
	"iter"
	"math"
	"slices"

	"meterworks/api"
)

// walk is houses, and the readings that came of them.
type walk api.Walk

// none is in the place of the reading before the first one of a house.
const none = -1

// of gives the readings of a house in their order, by their numbers: each after the one before it.
func (w walk) of(house int) iter.Seq2[int, int] {
	return func(yield func(int, int) bool) {
		var numbers []int
		for i, r := range w.Readings {
			if r.House == house {
				numbers = append(numbers, i)
			}
		}
		// A sort that is stable leaves those of the same day in the order of their numbers.
		slices.SortStableFunc(numbers, func(a, b int) int { return cmp.Compare(w.Readings[a].Day, w.Readings[b].Day) })
		before := none
		for _, i := range numbers {
			if !yield(before, i) {
				return
			}
			before = i
		}
	}
}

// before returns of each reading the one before it, of its house.
func (w walk) before() []int {
	out := make([]int, len(w.Readings))
	for house := range w.Rates {
		for before, i := range w.of(house) {
			out[i] = before
		}
	}
	return out
}

// misfits gives each house whose readings do not fit, with the first one of these that does not fit the one before it.
func (w walk) misfits() iter.Seq2[int, int] {
	return func(yield func(int, int) bool) {
	houses:
		for house := range w.Rates {
			for before, i := range w.of(house) {
				if before == none || w.follows(w.Readings[before], w.Readings[i]) {
					continue
				}
				if !yield(house, i) {
					return
				}
				continue houses
			}
		}
	}
}

// follows reports whether a reading fits the one before it.
func (w walk) follows(before, r api.Reading) bool {
	return w.shownBy(before, r.Day).has(litres(r.Shows))
}

func (w walk) allFit() bool {
	for range w.misfits() {
		return false
	}
	return true
}

// fits reports whether the readings of a house do.
func (w walk) fits(house int) bool {
	for other := range w.misfits() {
		if other == house {
			return false
		}
	}
	return true
}

// isRead reports whether a house has a reading.
func (w walk) isRead(house int) bool {
	return slices.ContainsFunc(w.Readings, func(r api.Reading) bool { return r.House == house })
}

// shownBy returns what the meter of a reading can show on a day, by this reading alone.
func (w walk) shownBy(r api.Reading, day int) bounds[litres] {
	rate, later := w.Rates[r.House], day-r.Day
	slow, fast := litres(r.Shows+later*rate.Lo), litres(r.Shows+later*rate.Hi)
	// On a day before the reading a meter shows the less the faster it turns.
	return bounds[litres]{min(slow, fast), max(slow, fast)}
}

// shown returns what the meter of a house can show on a day, by all its readings. These have to fit.
func (w walk) shown(house, day int) bounds[litres] {
	out := bounds[litres]{math.MinInt, math.MaxInt}
	for _, i := range w.of(house) {
		out = out.cut(w.shownBy(w.Readings[i], day))
	}
	return out
}
