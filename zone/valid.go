package zone

import "meterworks/api"

func isFrom(n, least, most int) bool { return n >= least && n <= most }

func isWithin(s api.Span, least, most int) bool {
	return s.Lo >= least && s.Lo <= s.Hi && s.Hi <= most
}

func areZones(l []api.Zone) bool {
	if !isFrom(len(l), 1, api.MaxZones) {
		return false
	}
	for i, z := range l {
		if !isZone(z) || !isFrom(z.Part, api.NoZone, i-1) {
			return false
		}
	}
	return true
}

func isZone(z api.Zone) bool {
	return isWithin(z.In, 0, api.MaxLitres) && isWithin(z.Meters, 0, api.MaxLitres) &&
		isWithin(z.Error, -api.MaxThou, api.MaxThou) && isWithin(z.Lawful, 0, api.MaxLitres)
}

func areNights(l []api.Night) bool {
	for _, n := range l {
		if !isWithin(n.Flow, 0, api.MaxLitres) || !isWithin(n.Use, 0, api.MaxLitres) || !isWithin(n.Hours, 0, api.MaxHours) {
			return false
		}
	}
	return true
}
