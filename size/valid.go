package size

import "meterworks/api"

func isFrom(n, least, most int) bool { return n >= least && n <= most }

func isHouse(h api.House) bool {
	if !isFrom(h.Head, 0, api.MaxHead) || !isFrom(h.Drip, 0, api.MaxFull) ||
		!isFrom(len(h.Taps), 1, api.MaxTaps) || len(h.Rules) > api.MaxRules {
		return false
	}
	for _, t := range h.Taps {
		if !isTap(t) {
			return false
		}
	}
	for _, r := range h.Rules {
		if !isFrom(r.Taps, 0, 1<<len(h.Taps)-1) || !isFrom(r.Most, 0, api.MaxTaps) {
			return false
		}
	}
	return true
}

func isTap(t api.Tap) bool {
	return t.Flow.Lo >= 0 && t.Flow.Lo <= t.Flow.Hi && t.Flow.Hi <= api.MaxTake && isFrom(t.Need, 0, api.MaxHead)
}

func isSize(s api.Size) bool {
	return isFrom(s.Full, 1, api.MaxFull) && isFrom(s.Start, 0, s.Full) &&
		isFrom(s.Loss, 0, api.MaxHead) && isFrom(s.Price, 0, api.MaxMeterPrice)
}

func areSizes(l []api.Size) bool {
	if len(l) > api.MaxSizes {
		return false
	}
	for i, s := range l {
		if !isSize(s) || i > 0 && s.Full <= l[i-1].Full {
			return false
		}
	}
	return true
}

// sizesError returns what is wrong with a house, or with sizes for it.
func sizesError(h api.House, l ...api.Size) api.Errno {
	switch {
	case !isHouse(h):
		return api.ErrArg
	case !areSizes(l):
		return api.ErrRange
	}
	return api.OK
}
