package zone

import "meterworks/api"

// fraction is one number divided by another one, which is more than 0.
type fraction struct{ over, under int }

// down returns a fraction, rounded down. What Go divides is rounded toward 0.
func (f fraction) down() int {
	n := f.over / f.under
	if f.over%f.under < 0 {
		n--
	}
	return n
}

// up returns a fraction, rounded up.
func (f fraction) up() int { return -fraction{-f.over, f.under}.down() }

// truth is a truth of a zone: its inflow, what its meters showed, by how many thousandths they erred, and what was drawn lawfully.
type truth struct{ in, shown, erred, lawful int }

// loss returns the loss of a zone in a truth, rounded.
func (t truth) loss(round func(fraction) int) int {
	scale := 1000 + t.erred
	return round(fraction{(t.in-t.lawful)*scale - 1000*t.shown, scale})
}

// own returns the own span of a zone, or 1..0 if it has none.
// A zone loses less, the more its meters showed and the less they showed too much.
func own(z api.Zone) api.Span {
	least := truth{z.In.Lo, z.Meters.Hi, z.Error.Lo, z.Lawful.Hi}
	most := truth{z.In.Hi, z.Meters.Lo, z.Error.Hi, z.Lawful.Lo}
	s := api.Span{Lo: max(0, least.loss(fraction.up)), Hi: most.loss(fraction.down)}
	if isEmpty(s) {
		return api.Span{Lo: 1, Hi: 0}
	}
	return s
}
