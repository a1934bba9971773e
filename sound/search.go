package sound

import (
	"sort"

	"meterworks/api"
)

// search looks for the places at which an end of the lag is so great, or greater.
type search struct {
	ears
	end   end
	great int
}

func (s search) isFound(at int) bool { return s.lag(at, s.end) >= s.great }

// first returns the first of the places, or the one after the last place of the line if there are none.
// The lag grows with the place, so that all later places are among them.
func (s search) first() int { return sort.Search(s.places().Hi+1, s.isFound) }

// allowed returns the places that each hearing allows. It is an empty span where there are none.
func (l line) allowed(hearings []api.Hearing) []api.Span {
	out := make([]api.Span, len(hearings))
	for i, h := range hearings {
		x := ears{l, h.From, h.To}
		out[i] = api.Span{
			Lo: search{x, greatest{}, h.Lag.Lo}.first(),
			Hi: search{x, least{}, h.Lag.Hi + 1}.first() - 1,
		}
	}
	return out
}
