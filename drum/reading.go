package drum

import (
	"cmp"
	"iter"
	"slices"

	"meterworks/api"
)

// reading is the figures that were read; near returns the part of some places at which a drum stands near enough to a figure.
type reading struct {
	figures []int
	near    func(places api.Span, figure int) (part api.Span, ok bool)
}

func areFigures(figures []int) bool {
	if len(figures) < 1 || len(figures) > api.MaxDrums {
		return false
	}
	for _, f := range figures {
		if f < 0 || f > 9 {
			return false
		}
	}
	return true
}

// nearWithin makes a reading's near for places that share a digit: they can be near to a figure on one side of a round only.
func nearWithin(within int) func(places api.Span, figure int) (part api.Span, ok bool) {
	return func(places api.Span, figure int) (api.Span, bool) {
		for _, just := range [2]int{figure * figureSize, figure*figureSize + roundSize} {
			part := api.Span{Lo: max(places.Lo, just-within), Hi: min(places.Hi, just+within)}
			if part.Lo <= part.Hi {
				return part, true
			}
		}
		return api.Span{}, false
	}
}

// state is how far the digits of a total are known, from the first drum on.
// A drum moves with the water, beyond its digit, if all drums before it have the digit 9; all that move are equally far beyond.
type state struct {
	drum   int // the next one
	size   int // what one of its figures counts for
	digits int // what the digits before it come to
	beyond api.Span
	moves  bool
}

func (r reading) totals() iter.Seq[api.Span] {
	return r.totalsFrom(state{size: figureSize, beyond: api.Span{Lo: 0, Hi: figureSize - 1}, moves: true})
}

// totalsFrom gives the totals with the digits that are known, a span for all that share their other digits too.
func (r reading) totalsFrom(s state) iter.Seq[api.Span] {
	return func(yield func(api.Span) bool) {
		if s.drum == len(r.figures) {
			yield(shift(s.beyond, s.digits))
			return
		}
	digits:
		for digit := range 10 {
			next, ok := r.with(s, digit)
			if !ok {
				continue digits
			}
			for total := range r.totalsFrom(next) {
				if !yield(total) {
					break digits
				}
			}
		}
	}
}

// with returns what is known when the next drum has a digit, and whether it can have it.
func (r reading) with(s state, digit int) (next state, ok bool) {
	var beyond api.Span
	if s.moves {
		beyond = s.beyond
	}
	part, ok := r.near(shift(beyond, digit*figureSize), r.figures[s.drum])
	if !ok {
		return state{}, false
	}
	if s.moves {
		s.beyond = shift(part, -digit*figureSize)
	}
	s.moves = s.moves && digit == 9
	s.digits += digit * s.size
	s.size *= 10
	s.drum++
	return s, true
}

func shift(s api.Span, by int) api.Span { return api.Span{Lo: s.Lo + by, Hi: s.Hi + by} }

// spansOf returns the totals of a reading; they come by the first digit first, so they are sorted before they are joined.
func spansOf(r reading) []api.Span {
	spans := slices.SortedFunc(r.totals(), func(a, b api.Span) int { return cmp.Compare(a.Lo, b.Lo) })
	return join(spans, func(a, b api.Span) (api.Span, bool) {
		return api.Span{Lo: a.Lo, Hi: b.Hi}, a.Hi+1 == b.Lo
	})
}

// join puts together what follows one another, as long as both are one.
func join[T any](list []T, both func(a, b T) (joined T, one bool)) []T {
	var out []T
	for _, x := range list {
		if last := len(out) - 1; last >= 0 {
			if joined, one := both(out[last], x); one {
				out[last] = joined
				continue
			}
		}
		out = append(out, x)
	}
	return out
}
