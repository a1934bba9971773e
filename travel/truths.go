package travel

import (
	"iter"

	"meterworks/api"
)

// truths are all truths with a suspicion that fit some trips.
type truths struct{ differences }

// truthsBefore returns the truths with a suspicion before there are any trips.
func truthsBefore(r api.Round, off int) truths {
	d := endlessDifferences()
	for bench := range r.Benches {
		if bench != off {
			d, _ = d.within(firstBench+bench, zero, api.Span{Lo: -r.Most, Hi: r.Most})
		}
	}
	return truths{d}
}

// with returns the truths that fit one trip more, and whether there are any.
func (t truths) with(trip api.Trip) (left truths, ok bool) {
	d, ok := t.within(firstBench+trip.Bench, firstMeter+trip.Meter, trip.Error)
	return truths{d}, ok
}

// truthsOf returns the truths with a suspicion that fit all trips, and whether there are any.
func truthsOf(r api.Round, off int) (t truths, ok bool) {
	t = truthsBefore(r, off)
	for _, trip := range r.Trips {
		if t, ok = t.with(trip); !ok {
			return truths{}, false
		}
	}
	return t, true
}

func (t truths) ofBench(bench int) (fault api.Span, ok bool) { return t.span(firstBench+bench, zero) }

func (t truths) ofMeter(meter int) (fault api.Span, ok bool) { return t.span(zero, firstMeter+meter) }

// question asks for the fault of a bench, or of a meter, and whether it has both ends.
type question func(t truths, which int) (fault api.Span, ok bool)

// answer answers a question about one of so many benches, or of so many meters.
func answer(r api.Round, off, which, count int, ask question) (api.Span, api.Errno) {
	if e := suspicionError(r, off); e != api.OK {
		return api.Span{}, e
	}
	if !isIndex(which, count) {
		return api.Span{}, api.ErrRange
	}
	t, ok := truthsOf(r, off)
	if !ok {
		return api.Span{}, api.ErrState
	}
	fault, ok := ask(t, which)
	if !ok {
		return api.Span{}, api.ErrNone
	}
	return fault, api.OK
}

// suspicions gives all suspicions of a round, first that all benches are right.
func suspicions(r api.Round) iter.Seq[int] {
	return func(yield func(int) bool) {
		for off := api.AllRight; off < r.Benches; off++ {
			if !yield(off) {
				return
			}
		}
	}
}

// fittingOf returns the suspicions that fit all trips.
func fittingOf(r api.Round) []int {
	var fitting []int
	for off := range suspicions(r) {
		if _, fits := truthsOf(r, off); fits {
			fitting = append(fitting, off)
		}
	}
	return fitting
}
