package sound

import (
	"iter"

	"meterworks/api"
)

// ears are two places of a line, from being at most to.
type ears struct {
	line
	from, to int
}

// shares gives each pipe, by its number, with how often that number counts in the lag of a noise at a place: once for
// each decimetre that the noise runs to from, less once for each that it runs to to.
func (x ears) shares(at int) iter.Seq2[int, int] {
	// Beyond an ear the way to it counts in both, so that the lag is that of a noise at the ear.
	at = nearest(api.Span{Lo: x.from, Hi: x.to}, at)
	return func(yield func(int, int) bool) {
		for i, places := range x.pipes() {
			toFrom := nearest(places, at) - nearest(places, x.from)
			toTo := nearest(places, x.to) - nearest(places, at)
			if !yield(i, toFrom-toTo) {
				return
			}
		}
	}
}

// lag returns an end of the lag of a noise at a place.
func (x ears) lag(at int, e end) int {
	sum := 0
	for i, share := range x.shares(at) {
		sum += e.of(share, x.line[i].Slow)
	}
	return sum
}

// lags returns the lag of a noise at a place, from its least end to its greatest.
func (x ears) lags(at int) api.Span {
	return api.Span{Lo: x.lag(at, least{}), Hi: x.lag(at, greatest{})}
}

// end is an end of a lag.
type end interface {
	// of returns what a pipe adds to it whose number counts so often.
	of(share int, slow api.Span) int
}

// least is the least lag of all truths, and greatest the greatest one.
type (
	least    struct{}
	greatest struct{}
)

func (least) of(share int, slow api.Span) int { return min(share*slow.Lo, share*slow.Hi) }

func (greatest) of(share int, slow api.Span) int { return max(share*slow.Lo, share*slow.Hi) }
