package size_test

import (
	"math"
	"slices"
	"testing"

	"meterworks/api"
	"meterworks/size"
)

func span(lo, hi int) api.Span { return api.Span{Lo: lo, Hi: hi} }

func tap(lo, hi, need int) api.Tap { return api.Tap{Flow: span(lo, hi), Need: need} }

func rule(taps, most int) api.Rule { return api.Rule{Taps: taps, Most: most} }

func meter(start, full, loss, price int) api.Size {
	return api.Size{Start: start, Full: full, Loss: loss, Price: price}
}

func exampleHouse() api.House {
	return api.House{
		Head: 400, Drip: 12,
		Taps:  []api.Tap{tap(300, 400, 100), tap(600, 800, 150), tap(200, 300, 50)},
		Rules: []api.Rule{rule(3, 1)},
	}
}

func exampleSizes() []api.Size {
	return []api.Size{meter(5, 1000, 200, 10), meter(10, 1500, 250, 15), meter(20, 3000, 250, 30)}
}

// house returns a house without rules.
func house(head, drip int, taps ...api.Tap) api.House {
	return api.House{Head: head, Drip: drip, Taps: taps}
}

// with returns a house with other rules.
func with(h api.House, rules ...api.Rule) api.House {
	h.Rules = rules
	return h
}

// changed returns the example's house, changed.
func changed(change func(h *api.House)) api.House {
	h := exampleHouse()
	change(&h)
	return h
}

func checkPeak(t *testing.T, h api.House, flow api.Span, set int, e api.Errno) {
	t.Helper()
	if a, b, f := size.Peak(h); a != flow || b != set || f != e {
		t.Error("Peak", h, "is", a, b, f, "and not", flow, set, e)
	}
}

func checkStarved(t *testing.T, h api.House, s api.Size, set int, pressure bool, e api.Errno) {
	t.Helper()
	if a, b, f := size.Starved(h, s); a != set || b != pressure || f != e {
		t.Error("Starved", h, s, "is", a, b, f, "and not", set, pressure, e)
	}
}

func checkChoose(t *testing.T, h api.House, l []api.Size, want int, e api.Errno) {
	t.Helper()
	if got, f := size.Choose(h, l); got != want || f != e {
		t.Error("Choose", h, l, "is", got, f, "and not", want, e)
	}
}

func checkPair(t *testing.T, h api.House, l []api.Size, small, great, price int, e api.Errno) {
	t.Helper()
	if a, b, c, f := size.Pair(h, l); a != small || b != great || c != price || f != e {
		t.Error("Pair", h, l, "is", a, b, c, f, "and not", small, great, price, e)
	}
}

func checkLeast(t *testing.T, h api.House, loss, want int, e api.Errno) {
	t.Helper()
	if got, f := size.Least(h, loss); got != want || f != e {
		t.Error("Least", h, loss, "is", got, f, "and not", want, e)
	}
}

// The chapter's examples.
func TestExamples(t *testing.T) {
	h, l := exampleHouse(), exampleSizes()
	checkPeak(t, h, span(800, 1100), 6, api.OK)
	checkStarved(t, h, l[0], 6, false, api.OK)
	checkStarved(t, h, l[1], 0, false, api.ErrNone)
	checkStarved(t, changed(func(h *api.House) { h.Head = 250 }), l[1], 6, true, api.OK)
	checkChoose(t, h, l, 1, api.OK)
	lessDrip := changed(func(h *api.House) { h.Drip = 8 })
	checkChoose(t, lessDrip, l, 0, api.ErrRefuse)
	checkChoose(t, h, l[:1], 0, api.ErrShort)
	checkPair(t, lessDrip, l, 0, 1, 25, api.OK)
	checkLeast(t, h, 200, 1100, api.OK)
	checkLeast(t, changed(func(h *api.House) { h.Head = 200 }), 200, 2200, api.OK)
	checkLeast(t, changed(func(h *api.House) { h.Head = 150 }), 200, 0, api.ErrNone)
}

// ten returns ten taps that are alike.
func ten(t api.Tap) []api.Tap { return slices.Repeat([]api.Tap{t}, api.MaxTaps) }

// P8.1: what may be open together, which of several sets comes first, and both ends of the flow, each of another set.
func TestPeak(t *testing.T) {
	two := house(0, 0, tap(5, 5, 0), tap(0, 9, 0))
	same := house(0, 0, tap(1, 4, 0), tap(2, 4, 0), tap(0, 4, 0))
	for _, s := range []struct {
		name string
		h    api.House
		flow api.Span
		set  int
	}{
		{"one tap", house(0, 0, tap(3, 7, 0)), span(3, 7), 1},
		{"a tap that takes nothing", house(0, 0, tap(0, 0, 0)), span(0, 0), 0},
		{"one that can take nothing", house(0, 0, tap(0, 7, 0)), span(0, 7), 1},
		{"a second tap that takes nothing", house(0, 0, tap(3, 7, 0), tap(0, 0, 9)), span(3, 7), 1},
		{"a first tap that takes nothing", house(0, 0, tap(0, 0, 9), tap(3, 7, 0)), span(3, 7), 2},
		{"both taps", two, span(5, 14), 3},
		{"one of both: the ends are of other sets", with(two, rule(3, 1)), span(5, 9), 2},
		{"none of both", with(two, rule(3, 0)), span(0, 0), 0},
		{"none of the first one", with(two, rule(1, 0)), span(0, 9), 2},
		{"none of the second one", with(two, rule(2, 0)), span(5, 5), 1},
		{"none of each", with(two, rule(1, 0), rule(2, 0)), span(0, 0), 0},
		{"both are allowed", with(two, rule(3, 2)), span(5, 14), 3},
		{"more than there are are allowed", with(two, rule(3, api.MaxTaps)), span(5, 14), 3},
		{"none of no taps", with(two, rule(0, 0)), span(5, 14), 3},
		{"a rule that is wider, and one that is narrower", with(two, rule(3, 2), rule(3, 1)), span(5, 9), 2},
		{"all three", same, span(3, 12), 7},
		{"two of three that take the same", with(same, rule(7, 2)), span(3, 8), 3},
		{"one of them", with(same, rule(7, 1)), span(2, 4), 1},
		{"one of the last two", with(same, rule(6, 1)), span(3, 8), 3},
		{"one of the outer ones", with(same, rule(5, 1)), span(3, 8), 3},
		{"one of the first two", with(same, rule(3, 1)), span(2, 8), 5},
		{"one of each two", with(same, rule(3, 1), rule(5, 1), rule(6, 1)), span(2, 4), 1},
		{"ten taps", house(0, 0, ten(tap(0, api.MaxTake, 0))...), span(0, 1_000_000), 1023},
		{"ten taps that take all", house(0, 0, ten(tap(api.MaxTake, api.MaxTake, 0))...), span(1_000_000, 1_000_000), 1023},
		{"four of ten", with(house(0, 0, ten(tap(2, 7, 0))...), rule(1023, 4)), span(8, 28), 15},
		{"two each of five", with(house(0, 0, ten(tap(2, 7, 0))...), rule(31, 2), rule(31<<5, 2)), span(8, 28), 3 + 3<<5},
		{"only the last of ten", with(house(0, 0, ten(tap(2, 7, 0))...), rule(511, 0)), span(2, 7), 512},
	} {
		t.Run(s.name, func(t *testing.T) { checkPeak(t, s.h, s.flow, s.set, api.OK) })
	}
}

// P8.2: just enough and just too little, which of several sets comes first, and by what it is starved.
func TestStarved(t *testing.T) {
	const byFlow, byPressure = false, true
	one := house(100, 0, tap(0, 50, 60))
	for _, c := range []struct {
		name     string
		h        api.House
		s        api.Size
		set      int
		pressure bool
	}{
		{"the flow is just borne", one, meter(0, 50, 0, 0), 0, false},
		{"it can be one too much", one, meter(0, 49, 0, 0), 1, byFlow},
		{"the pressure is just enough", one, meter(0, 50, 40, 0), 0, false},
		{"it can be one too little", one, meter(0, 50, 41, 0), 1, byPressure},
		{"a quarter of the pressure", one, meter(0, 100, 160, 0), 0, false},
		{"a part of one too little", one, meter(0, 100, 161, 0), 1, byPressure},
		{"the flow is looked at first", one, meter(0, 49, api.MaxHead, 0), 1, byFlow},
		{"the pressure is too little before the meter", house(59, 0, tap(0, 50, 60)), meter(0, 50, 0, 0), 1, byPressure},
		{"it is just enough before it", house(60, 0, tap(0, 50, 60)), meter(0, 50, 0, 0), 0, false},
		{"a ninth of one is too much", house(60, 0, tap(0, 1, 60)), meter(0, 3, 1, 0), 1, byPressure},
		{"a ninth of one is borne", house(61, 0, tap(0, 1, 60)), meter(0, 3, 9, 0), 0, false},
		{"ten ninths are not", house(61, 0, tap(0, 1, 60)), meter(0, 3, 10, 0), 1, byPressure},
		{"a tap that takes nothing", house(5, 0, tap(0, 0, 5)), meter(0, 1, api.MaxHead, 0), 0, false},
		{"it needs more than there is", house(5, 0, tap(0, 0, 6)), meter(0, 1, 0, 0), 1, byPressure},
		{"it may not be open", with(house(5, 0, tap(9, 9, 6)), rule(1, 0)), meter(0, 1, 0, 0), 0, false},
		{"what starts late does not starve", one, meter(50, 50, 40, 0), 0, false},
		{"both together, by the flow", house(100, 0, tap(0, 50, 60), tap(0, 50, 60)), meter(0, 99, 0, 0), 3, byFlow},
		{"both together, by the pressure", house(100, 0, tap(0, 50, 60), tap(0, 50, 60)), meter(0, 100, 41, 0), 3, byPressure},
		{"both together, just not", house(100, 0, tap(0, 50, 60), tap(0, 50, 60)), meter(0, 100, 40, 0), 0, false},
		{"the need of the one and the flow of both", house(100, 0, tap(0, 100, 0), tap(0, 1, 60)), meter(0, 101, 41, 0), 3, byPressure},
		{"the need of the other one and the flow of both", house(100, 0, tap(0, 1, 60), tap(0, 100, 0)), meter(0, 101, 41, 0), 3, byPressure},
		{"the needs are not added up", house(100, 0, tap(0, 1, 60), tap(0, 1, 60)), meter(0, 2, 40, 0), 0, false},
		{"one of both, though by the pressure", house(100, 0, tap(0, 10, 99), tap(0, 50, 0)), meter(0, 20, 10, 0), 1, byPressure},
		{"one of both, though by the flow", house(100, 0, tap(0, 50, 0), tap(0, 10, 99)), meter(0, 20, 10, 0), 1, byFlow},
		{"the second one of both", house(100, 0, tap(0, 10, 0), tap(0, 20, 99)), meter(0, 30, 10, 0), 2, byPressure},
		{"not both together", with(house(100, 0, tap(0, 50, 60), tap(0, 50, 60)), rule(3, 1)), meter(0, 50, 40, 0), 0, false},
		{"a set that comes later by a rule", with(house(100, 0, ten(tap(0, 5, 0))...), rule(7, 1)), meter(0, 9, 0, 0), 9, byFlow},
		{"all limits, just borne", house(api.MaxHead, 0, ten(tap(0, api.MaxTake, 0))...), meter(0, api.MaxFull, api.MaxHead, 0), 0, false},
		{"all limits, one more is needed", house(api.MaxHead, 0, append(ten(tap(0, api.MaxTake, 0))[1:], tap(0, api.MaxTake, 1))...), meter(0, api.MaxFull, api.MaxHead, 0), 1023, byPressure},
		{"all limits, and no pressure", house(0, 0, ten(tap(0, api.MaxTake, api.MaxHead))...), meter(0, api.MaxFull, api.MaxHead, 0), 1, byPressure},
		{"all limits, one litre too much", house(api.MaxHead, 0, ten(tap(0, api.MaxTake, 0))...), meter(0, api.MaxFull-1, 0, 0), 1023, byFlow},
	} {
		e := api.OK
		if c.set == 0 {
			e = api.ErrNone
		}
		t.Run(c.name, func(t *testing.T) { checkStarved(t, c.h, c.s, c.set, c.pressure, e) })
	}
}

// P8.3: the first size that does both, just hears, and just does not.
func TestChoose(t *testing.T) {
	h := house(100, 12, tap(0, 50, 60))
	for _, c := range []struct {
		name string
		h    api.House
		l    []api.Size
		want int
		e    api.Errno
	}{
		{"no sizes", h, nil, 0, api.ErrShort},
		{"no sizes, an empty list", h, []api.Size{}, 0, api.ErrShort},
		{"one that just hears", h, []api.Size{meter(12, 50, 40, 0)}, 0, api.OK},
		{"one that just does not", h, []api.Size{meter(13, 50, 40, 0)}, 0, api.ErrRefuse},
		{"one that starves", h, []api.Size{meter(12, 49, 40, 0)}, 0, api.ErrShort},
		{"one that starves by the pressure", h, []api.Size{meter(12, 50, 41, 0)}, 0, api.ErrShort},
		{"one that starves, and does not hear", h, []api.Size{meter(13, 49, 40, 0)}, 0, api.ErrShort},
		{"only the one that starves hears", h, []api.Size{meter(1, 49, 0, 0), meter(13, 50, 0, 0)}, 0, api.ErrRefuse},
		{"the second one hears", h, []api.Size{meter(13, 50, 0, 0), meter(12, 51, 0, 0)}, 1, api.OK},
		{"the second one starves by the pressure", h, []api.Size{meter(13, 50, 0, 0), meter(12, 51, 400, 0), meter(12, 52, 0, 0)}, 2, api.OK},
		{"the last one starves", h, []api.Size{meter(13, 50, 0, 0), meter(12, 51, 400, 0)}, 0, api.ErrRefuse},
		{"the price makes no difference", h, []api.Size{meter(0, 50, 0, 9), meter(0, 51, 0, 1)}, 0, api.OK},
		{"the drip 0", house(100, 0, tap(0, 50, 60)), []api.Size{meter(1, 60, 0, 0), meter(0, 61, 0, 0)}, 1, api.OK},
		{"nothing may be open", with(house(0, 0, tap(9, 9, 9)), rule(1, 0)), []api.Size{meter(0, 1, 9, 0)}, 0, api.OK},
		{"the last of twelve", h, rising(api.MaxSizes, 39), 11, api.OK},
		{"none of twelve", h, rising(api.MaxSizes, 38), 0, api.ErrShort},
		{"the greatest drip", house(api.MaxHead, api.MaxFull, tap(0, 9, 0)), []api.Size{meter(api.MaxFull, api.MaxFull, 0, 0)}, 0, api.OK},
	} {
		t.Run(c.name, func(t *testing.T) { checkChoose(t, c.h, c.l, c.want, c.e) })
	}
}

// rising returns so many sizes without a loss, from one Full on, each of which costs one more than the one before.
func rising(count, full int) []api.Size {
	var l []api.Size
	for i := range count {
		l = append(l, meter(0, full+i, 0, i))
	}
	return l
}

// P8.4: which pairs are allowed, which of them is cheapest, and which of several comes first.
func TestPair(t *testing.T) {
	h := house(100, 12, tap(0, 50, 60))
	for _, c := range []struct {
		name                string
		h                   api.House
		l                   []api.Size
		small, great, price int
		e                   api.Errno
	}{
		{"no sizes", h, nil, 0, 0, 0, api.ErrNone},
		{"one alone, which does both", h, []api.Size{meter(0, 50, 0, 7)}, 0, 0, 0, api.ErrNone},
		{"just hears", h, []api.Size{meter(12, 20, 0, 7), meter(15, 50, 0, 8)}, 0, 1, 15, api.OK},
		{"just does not hear", h, []api.Size{meter(13, 20, 0, 7), meter(15, 50, 0, 8)}, 0, 0, 0, api.ErrNone},
		{"the great one begins where the small one ends", h, []api.Size{meter(0, 20, 0, 7), meter(20, 50, 0, 8)}, 0, 1, 15, api.OK},
		{"it begins later", h, []api.Size{meter(0, 20, 0, 7), meter(21, 50, 0, 8)}, 0, 0, 0, api.ErrNone},
		{"the great one starves by the flow", h, []api.Size{meter(0, 20, 0, 7), meter(0, 49, 0, 8)}, 0, 0, 0, api.ErrNone},
		{"the great one starves by the pressure", h, []api.Size{meter(0, 20, 0, 7), meter(0, 50, 41, 8)}, 0, 0, 0, api.ErrNone},
		{"the small one may starve, by any of them", h, []api.Size{meter(0, 20, 9999, 7), meter(0, 50, 40, 8)}, 0, 1, 15, api.OK},
		{"the small one may be enough, too", h, []api.Size{meter(0, 60, 0, 7), meter(0, 61, 0, 8)}, 0, 1, 15, api.OK},
		{"only the great one hears", h, []api.Size{meter(13, 60, 0, 7), meter(0, 61, 0, 8)}, 0, 0, 0, api.ErrNone},
		{"only the small one is enough", h, []api.Size{meter(0, 60, 0, 7), meter(0, 61, 999, 8)}, 0, 0, 0, api.ErrNone},
		{"the great one is not before the small one", h, []api.Size{meter(13, 60, 0, 7), meter(12, 70, 999, 8)}, 0, 0, 0, api.ErrNone},
		{"for nothing", h, []api.Size{meter(0, 60, 0, 0), meter(0, 61, 0, 0)}, 0, 1, 0, api.OK},
		{"all cost the same", h, []api.Size{meter(0, 60, 0, 5), meter(0, 61, 0, 5), meter(0, 62, 0, 5)}, 0, 1, 10, api.OK},
		{"the first small one, then the first great one", h, []api.Size{meter(0, 20, 0, 1), meter(0, 30, 0, 1), meter(0, 50, 0, 9), meter(0, 51, 0, 9)}, 0, 2, 10, api.OK},
		{"the first small one, though with the last great one", h, []api.Size{meter(0, 20, 0, 1), meter(0, 30, 0, 2), meter(25, 50, 0, 8), meter(20, 51, 0, 9)}, 0, 3, 10, api.OK},
		{"the second small one is cheaper", h, []api.Size{meter(0, 20, 0, 2), meter(0, 30, 0, 1), meter(0, 50, 0, 9), meter(0, 51, 0, 9)}, 1, 2, 10, api.OK},
		{"the second great one is cheaper", h, []api.Size{meter(0, 20, 0, 2), meter(0, 30, 0, 2), meter(0, 50, 0, 9), meter(0, 51, 0, 8)}, 0, 3, 10, api.OK},
		{"cheaper by one together", h, []api.Size{meter(0, 20, 0, 4), meter(0, 30, 0, 5), meter(30, 50, 0, 8), meter(20, 51, 0, 10)}, 1, 2, 13, api.OK},
		{"a cheaper one does not hear", h, []api.Size{meter(13, 20, 0, 1), meter(12, 30, 0, 5), meter(0, 50, 0, 9)}, 1, 2, 14, api.OK},
		{"a cheaper one is not enough", h, []api.Size{meter(0, 20, 0, 3), meter(0, 30, 0, 1), meter(0, 50, 0, 9)}, 1, 2, 10, api.OK},
		{"the dearest ones", h, []api.Size{meter(0, 20, 0, api.MaxMeterPrice), meter(0, 50, 0, api.MaxMeterPrice)}, 0, 1, 2_000_000, api.OK},
		{"the last two of twelve", h, rising(api.MaxSizes, 38)[:11], 0, 0, 0, api.ErrNone},
		{"the first and the last of twelve", h, rising(api.MaxSizes, 39), 0, 11, 11, api.OK},
	} {
		t.Run(c.name, func(t *testing.T) { checkPair(t, c.h, c.l, c.small, c.great, c.price, c.e) })
	}
}

// P8.5: rounding up, and the least and the greatest of all.
func TestLeast(t *testing.T) {
	flowing := func(flow, need int) api.House { return house(100, 0, tap(0, flow, need)) }
	for _, c := range []struct {
		name       string
		h          api.House
		loss, want int
		e          api.Errno
	}{
		{"no loss", flowing(50, 60), 0, 50, api.OK},
		{"the pressure is just enough", flowing(50, 60), 40, 50, api.OK},
		{"it is not", flowing(50, 60), 41, 51, api.OK},
		{"twice the flow", flowing(50, 60), 160, 100, api.OK},
		{"a little more than twice", flowing(50, 60), 161, 101, api.OK},
		{"the root of two", flowing(1000, 99), 2, 1415, api.OK},
		{"the greatest loss", flowing(1, 99), api.MaxHead, 100, api.OK},
		{"no pressure is left", flowing(1, 100), 1, 0, api.ErrNone},
		{"none is left, and none is lost", flowing(7, 100), 0, 7, api.OK},
		{"there is less than is needed", flowing(7, 101), 0, 0, api.ErrNone},
		{"nothing flows", flowing(0, 100), api.MaxHead, 1, api.OK},
		{"nothing flows, but more is needed", flowing(0, 101), 0, 0, api.ErrNone},
		{"one litre", flowing(1, 0), 0, 1, api.OK},
		{"nothing may be open", with(flowing(7, 101), rule(1, 0)), api.MaxHead, 1, api.OK},
		{"up to the limit", flowing(api.MaxTake, 99), 100, api.MaxFull, api.OK},
		{"beyond it", flowing(api.MaxTake, 99), 101, 0, api.ErrNone},
		{"ten taps, up to the limit", house(api.MaxHead, 0, ten(tap(0, api.MaxTake, 0))...), api.MaxHead, api.MaxFull, api.OK},
		{"ten taps, beyond it", house(api.MaxHead-1, 0, ten(tap(0, api.MaxTake, 0))...), api.MaxHead, 0, api.ErrNone},
		{"the need of one and the flow of both", house(100, 0, tap(0, 30, 0), tap(0, 20, 99)), 4, 100, api.OK},
		{"the greater need, not the greater flow", with(house(100, 0, tap(0, 30, 0), tap(0, 20, 99)), rule(3, 1)), 4, 40, api.OK},
	} {
		t.Run(c.name, func(t *testing.T) { checkLeast(t, c.h, c.loss, c.want, c.e) })
	}
	for _, loss := range []int{-1, api.MaxHead + 1, math.MinInt, math.MaxInt} {
		checkLeast(t, flowing(50, 60), loss, 0, api.ErrRange)
		checkLeast(t, flowing(50, 101), loss, 0, api.ErrRange)
	}
}

// P8.2 and P8.5: the pressure is not rounded, where both sides of what is compared are near 10^16, and differ by one or two.
func TestExactPressure(t *testing.T) {
	tenTaking := func(head, each, last int) api.House {
		return house(head, 0, append(slices.Repeat([]api.Tap{tap(0, each, 0)}, 9), tap(0, last, 0))...)
	}
	enough := tenTaking(9469, 96_927, 96_922)
	checkPeak(t, enough, span(0, 969_265), 1023, api.OK)
	checkStarved(t, enough, meter(0, 988_673, 9852, 0), 0, false, api.ErrNone)
	checkStarved(t, enough, meter(0, 988_672, 9852, 0), 1023, true, api.OK)
	checkLeast(t, enough, 9852, 988_673, api.OK)
	short := tenTaking(9726, 98_997, 98_995)
	checkPeak(t, short, span(0, 989_968), 1023, api.OK)
	checkStarved(t, short, meter(0, 994_943, 9824, 0), 1023, true, api.OK)
	checkStarved(t, short, meter(0, 994_944, 9824, 0), 0, false, api.ErrNone)
	checkLeast(t, short, 9824, 994_944, api.OK)
}
