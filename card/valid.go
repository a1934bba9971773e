package card

import "meterworks/api"

func isFrom(n, least, most int) bool { return n >= least && n <= most }

func isDay(n int) bool { return isFrom(n, 0, api.MaxDay) }

func (w walk) isHouse(n int) bool { return isFrom(n, 0, len(w.Rates)-1) }

func (w walk) isReading(r api.Reading) bool {
	return w.isHouse(r.House) && isDay(r.Day) && isFrom(r.Shows, 0, api.MaxLitres)
}

func (w walk) isValid() bool {
	if !isFrom(len(w.Rates), 1, api.MaxDoors) || len(w.Readings) > api.MaxReadings {
		return false
	}
	for _, r := range w.Rates {
		if r.Lo < 0 || r.Lo > r.Hi || r.Hi > api.MaxRate {
			return false
		}
	}
	for _, r := range w.Readings {
		if !w.isReading(r) {
			return false
		}
	}
	return true
}
