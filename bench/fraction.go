package bench

import (
	"cmp"

	"meterworks/api"
)

// fraction is an exact number; under is above 0.
type fraction struct{ over, under int }

// minus returns a difference of values of a table, whose products do not overflow: a value has an over of at most 10^11,
// and an under of at most 10^4.
func (f fraction) minus(g fraction) fraction {
	return fraction{f.over*g.under - g.over*f.under, f.under * g.under}
}

func (f fraction) plus(n int) fraction { return fraction{f.over + n*f.under, f.under} }

// compare is for values of a table, too.
func (f fraction) compare(g fraction) int { return cmp.Compare(f.minus(g).over, 0) }

func (f fraction) atLeast(n int) bool { return f.over >= n*f.under }

func (f fraction) atMost(n int) bool { return f.over <= n*f.under }

// rounding is the side to which a fraction is rounded: toward the lesser integer, or toward the greater one.
type rounding int

const (
	down rounding = iota
	up
)

// of rounds. Go's division rounds toward 0, so that only one side needs a step more.
func (r rounding) of(f fraction) int {
	whole, rest := f.over/f.under, f.over%f.under
	switch {
	case r == down && rest < 0:
		return whole - 1
	case r == up && rest > 0:
		return whole + 1
	}
	return whole
}

// bounds are the least and the greatest value of something.
type bounds struct{ least, greatest fraction }

func (b bounds) span() api.Span { return api.Span{Lo: down.of(b.least), Hi: up.of(b.greatest)} }

// ends returns the least and the greatest of several.
func ends[T any](compare func(a, b T) int, several ...T) (least, greatest T) {
	for i, one := range several {
		if i == 0 || compare(one, least) < 0 {
			least = one
		}
		if i == 0 || compare(one, greatest) > 0 {
			greatest = one
		}
	}
	return least, greatest
}
