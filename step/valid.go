package step

import "meterworks/api"

func isFrom(n, least, most int) bool { return n >= least && n <= most }

func isLitres(s api.Span) bool {
	return s.Lo >= 0 && s.Lo <= s.Hi && s.Hi <= api.MaxLitres
}

func isTest(t api.Steps) bool {
	if !isFrom(len(t.Uses), 1, api.MaxStreets) || !isFrom(t.Leaks, 0, api.MaxLeaks) ||
		!isFrom(t.Least, 1, api.MaxLitres) || len(t.Steps) > api.MaxSteps {
		return false
	}
	for _, u := range t.Uses {
		if !isLitres(u) {
			return false
		}
	}
	for _, x := range t.Steps {
		if !isSet(x.Shut, len(t.Uses)) || !isLitres(x.Flow) {
			return false
		}
	}
	return true
}

// isSet reports whether a number is a set of so many streets.
func isSet(n, streets int) bool { return isFrom(n, 0, int(first(streets))) }

func areSets(l []int, streets int) bool {
	for _, n := range l {
		if !isSet(n, streets) {
			return false
		}
	}
	return true
}
