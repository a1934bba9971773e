package bench

import (
	"iter"

	"meterworks/api"
)

// table is the marks of a bench, between which values are those of straight lines.
type table []api.Mark

// at returns the value at a number that is not beyond the first or the last mark.
func (t table) at(number int) fraction {
	i := 1
	for t[i].At < number {
		i++
	}
	a, b := t[i-1], t[i]
	gap := b.At - a.At
	return fraction{a.Value*gap + (b.Value-a.Value)*(number-a.At), gap}
}

// corners gives the values that can be extreme in a span: those at both of its ends, and at the marks between them.
func (t table) corners(s api.Span) iter.Seq[fraction] {
	return func(yield func(fraction) bool) {
		if !yield(t.at(s.Lo)) {
			return
		}
		for _, m := range t {
			if m.At > s.Lo && m.At < s.Hi && !yield(fraction{m.Value, 1}) {
				return
			}
		}
		yield(t.at(s.Hi))
	}
}

// within returns the bounds of the values in a span.
func (t table) within(s api.Span) bounds {
	first := t.at(s.Lo)
	b := bounds{first, first}
	for value := range t.corners(s) {
		b.least, b.greatest = ends(fraction.compare, b.least, b.greatest, value)
	}
	return b
}

// reaches reports whether a span is valid, and not beyond the first or the last mark.
func (t table) reaches(s api.Span) bool { return isSpan(s, t[0].At, t[len(t)-1].At) }
