package sound

import "meterworks/api"

func isFrom(n, least, most int) bool { return n >= least && n <= most }

// isWithin reports whether a span is valid and from one number to another one.
func isWithin(s api.Span, least, most int) bool {
	return s.Lo >= least && s.Lo <= s.Hi && s.Hi <= most
}

func (l line) isValid() bool {
	if !isFrom(len(l), 1, api.MaxPipes) {
		return false
	}
	for _, p := range l {
		if !isFrom(p.Length, 1, api.MaxLength) || !isWithin(p.Slow, 1, api.MaxSlow) {
			return false
		}
	}
	return true
}

func (l line) isPlace(n int) bool { return isFrom(n, 0, l.places().Hi) }

func (l line) areEars(from, to int) bool {
	return l.isPlace(from) && l.isPlace(to) && from <= to
}

func (l line) isHearing(h api.Hearing) bool {
	return l.areEars(h.From, h.To) && isWithin(h.Lag, -api.MaxLag, api.MaxLag)
}

func (l line) areHearings(hearings []api.Hearing) bool {
	for _, h := range hearings {
		if !l.isHearing(h) {
			return false
		}
	}
	return true
}
