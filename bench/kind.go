package bench

import "meterworks/api"

// kind is a bench of one of both kinds. What is right for it, and its water, may be asked for only if it is valid,
// and the water of a catch only if this is right.
type kind interface {
	valid() bool
	right(x api.Catch) bool
	water(x api.Catch) bounds
}

func kindOf(b api.Bench) kind {
	byWeighs := map[bool]func(api.Bench) kind{
		true:  func(b api.Bench) kind { return scale{b} },
		false: func(b api.Bench) kind { return tank{b} },
	}
	return byWeighs[b.Weighs](b)
}

// scale is a bench that weighs water: its table is densities by warmth.
type scale struct{ api.Bench }

func (s scale) valid() bool { return isBench(s.Bench) }

func (s scale) right(x api.Catch) bool {
	return isSpan(x.Begin, 0, api.MaxValue) && isSpan(x.End, 0, api.MaxValue) && table(s.Table).reaches(x.Warm)
}

// water takes the least weight with what makes the least of it, as if it were above 0: if it is not, the water is too little anyway.
func (s scale) water(x api.Catch) bounds {
	densities := table(s.Table).within(x.Warm)
	return bounds{
		least:    millilitres(x.End.Lo-x.Begin.Hi-2*s.Off, s.Buoy.Lo, densities.greatest),
		greatest: millilitres(x.End.Hi-x.Begin.Lo+2*s.Off, s.Buoy.Hi, densities.least),
	}
}

// millilitres does not overflow: over is at most 4 * 10^17.
func millilitres(grams, buoy int, density fraction) fraction {
	return fraction{grams * (1_000_000 + buoy) * density.under, density.over}
}

// tank is a bench that catches water: its table is volumes by height.
type tank struct{ api.Bench }

func (t tank) valid() bool {
	if !isBench(t.Bench) {
		return false
	}
	for i, m := range t.Table {
		if i > 0 && m.Value < t.Table[i-1].Value {
			return false
		}
	}
	return true
}

func (t tank) right(x api.Catch) bool {
	return table(t.Table).reaches(x.Begin) && table(t.Table).reaches(x.End)
}

func (t tank) water(x api.Catch) bounds {
	first, last := table(t.Table).within(x.Begin), table(t.Table).within(x.End)
	return bounds{
		least:    last.least.minus(first.greatest).plus(-2 * t.Off),
		greatest: last.greatest.minus(first.least).plus(2 * t.Off),
	}
}
