package bench

import (
	"cmp"

	"meterworks/api"
)

// parts is how many parts an error counts in the whole of what went through.
const parts = 10_000

// flowed is what went through the meters: any number of millilitres from Lo to Hi, at least 1.
type flowed struct{ api.Span }

// flowedOf returns what went through the meters. The air is known in whole millilitres, so that only the water is rounded.
func flowedOf(b api.Bench, x api.Catch) (flowed, api.Errno) {
	k := kindOf(b)
	switch {
	case !k.valid():
		return flowed{}, api.ErrArg
	case !k.right(x):
		return flowed{}, api.ErrRange
	}
	water := k.water(x)
	if !water.least.atLeast(1) {
		return flowed{}, api.ErrShort
	}
	s := water.span()
	return flowed{api.Span{Lo: s.Lo + b.Air.Lo, Hi: s.Hi + b.Air.Hi}}, api.OK
}

// flowedPast returns what went through the meters of a row.
func flowedPast(b api.Bench, x api.Catch, row []api.Span) (flowed, api.Errno) {
	f, e := flowedOf(b, x)
	if e == api.OK {
		e = rowError(row)
	}
	if e != api.OK {
		return flowed{}, e
	}
	return f, api.OK
}

// inHour returns the litres in an hour. Millilitres in milliseconds are litres in seconds.
func (f flowed) inHour(time api.Span) api.Span {
	const seconds = 3600
	return bounds{fraction{f.Lo * seconds, time.Hi}, fraction{f.Hi * seconds, time.Lo}}.span()
}

// errorOf returns the bounds of a meter's error: the more it showed, and the less went through, the greater it is.
func (f flowed) errorOf(shown api.Span) bounds {
	return bounds{
		least:    fraction{(shown.Lo - f.Hi) * parts, f.Hi},
		greatest: fraction{(shown.Hi - f.Lo) * parts, f.Lo},
	}
}

func (f flowed) errorSpan(shown api.Span) api.Span { return f.errorOf(shown).span() }

// gap returns the span of one meter's error less that of another one. Less water makes a gap above 0 greater, and one below 0 lesser,
// so both ends of what went through are tried. They are rounded first: this keeps their order, and to compare fractions would overflow.
func (f flowed) gap(one, other api.Span) api.Span {
	least, greatest := (one.Lo-other.Hi)*parts, (one.Hi-other.Lo)*parts
	lo, _ := ends(cmp.Compare[int], down.of(fraction{least, f.Lo}), down.of(fraction{least, f.Hi}))
	_, hi := ends(cmp.Compare[int], up.of(fraction{greatest, f.Lo}), up.of(fraction{greatest, f.Hi}))
	return api.Span{Lo: lo, Hi: hi}
}

// limit is the most by which a meter may err, of what went through.
type limit struct {
	flowed
	most int
}

// passes returns whether a meter passes. If the bounds of its error meet those of the limit, there is a truth in which it does:
// with the least that it can have shown, or with the most, its error is within the limit for some water; or else the one is too low
// and the other one too high for all water, and it can have shown just what went through, which is an integer at both ends.
func (l limit) passes(shown api.Span) int {
	b := l.errorOf(shown)
	switch {
	case b.least.atLeast(-l.most) && b.greatest.atMost(l.most):
		return api.Yes
	case b.least.atMost(l.most) && b.greatest.atLeast(-l.most):
		return api.Perhaps
	}
	return api.No
}

// each returns what there is of each meter, in the order of the row.
func each[T any](row []api.Span, of func(shown api.Span) T) []T {
	var out []T
	for _, shown := range row {
		out = append(out, of(shown))
	}
	return out
}
