package travel

import "meterworks/api"

func isRound(r api.Round) bool {
	if !isFrom(r.Benches, 1, api.MaxBenches) || !isFrom(r.Meters, 1, api.MaxMeters) ||
		!isFrom(r.Most, 0, api.MaxFound) || len(r.Trips) > api.MaxTrips {
		return false
	}
	for _, t := range r.Trips {
		if !isIndex(t.Bench, r.Benches) || !isIndex(t.Meter, r.Meters) || !isFound(t.Error) {
			return false
		}
	}
	return true
}

func isFound(s api.Span) bool {
	return s.Lo >= -api.MaxFound && s.Lo <= s.Hi && s.Hi <= api.MaxFound
}

func isFrom(n, least, most int) bool { return n >= least && n <= most }

func isIndex(i, count int) bool { return i >= 0 && i < count }

// suspicionError returns what is wrong with a round, or with a suspicion of it.
func suspicionError(r api.Round, off int) api.Errno {
	switch {
	case !isRound(r):
		return api.ErrArg
	case off != api.AllRight && !isIndex(off, r.Benches):
		return api.ErrRange
	}
	return api.OK
}
