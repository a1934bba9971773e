package travel

import (
	"math"

	"meterworks/api"
)

// The numbers whose differences are kept: 0 itself, what each bench adds, and what each meter takes away, which is its fault with
// the other sign. So a trip tells the difference of its bench and its meter, as a bench that is right tells that of itself and 0.
const (
	zero        = 0
	firstBench  = zero + 1
	firstMeter  = firstBench + api.MaxBenches
	numberCount = firstMeter + api.MaxMeters
)

// endless is in the place of a greatest difference that there is not.
const endless = math.MaxInt

// differences are, in the row of a number and the column of another one, how much the one is more than the other one at most.
// None is more than two others allow together, which lead from the one number to the other one by way of a third one.
type differences [numberCount][numberCount]int

func endlessDifferences() differences {
	var d differences
	for i := range d {
		for k := range d[i] {
			if i != k {
				d[i][k] = endless
			}
		}
	}
	return d
}

// atMost returns the differences that are left if a is at most so much more than b, and whether there are any.
// In the row of b and the column of a, which are read here, nothing changes, since a way round is never less than 0.
func (d differences) atMost(a, b, most int) (left differences, ok bool) {
	add := func(x, y int) int {
		if x == endless || y == endless {
			return endless
		}
		return x + y
	}
	if add(most, d[b][a]) < 0 {
		return differences{}, false
	}
	for i := range d {
		upToB := add(d[i][a], most)
		for k := range d[i] {
			d[i][k] = min(d[i][k], add(upToB, d[b][k]))
		}
	}
	return d, true
}

// within returns the differences that are left if a less b is within a span, and whether there are any.
func (d differences) within(a, b int, s api.Span) (left differences, ok bool) {
	left, ok = d.atMost(a, b, s.Hi)
	if !ok {
		return differences{}, false
	}
	return left.atMost(b, a, -s.Lo)
}

// most returns how much a is more than b at most, nil if there is no end of it.
func (d differences) most(a, b int) *int {
	n := d[a][b]
	if n == endless {
		return nil
	}
	return &n
}

// span returns from where to where a less b can be, and whether it has both ends.
func (d differences) span(a, b int) (s api.Span, ok bool) {
	greatest, back := d.most(a, b), d.most(b, a)
	if greatest == nil || back == nil {
		return api.Span{}, false
	}
	return api.Span{Lo: -*back, Hi: *greatest}, true
}
