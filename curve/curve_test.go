package curve_test

import (
	"math"
	"math/rand"
	"slices"
	"testing"

	"meterworks/api"
	"meterworks/curve"
)

func span(lo, hi int) api.Span { return api.Span{Lo: lo, Hi: hi} }

func point(flow, lo, hi int) api.Point { return api.Point{Flow: flow, Error: span(lo, hi)} }

func kind(start, steep int, points ...api.Point) api.Curve {
	return api.Curve{Start: start, Steep: steep, Points: points}
}

func draw(flow, litres int) api.Draw { return api.Draw{Flow: flow, Litres: litres} }

func band(from, to, most int) api.Band { return api.Band{From: from, To: to, Most: most} }

func checkAt(t *testing.T, name string, c api.Curve, flow int, want api.Span, e api.Errno) {
	t.Helper()
	if got, gotE := curve.At(c, flow); got != want || gotE != e {
		t.Errorf("%s: %v: At %d returns %v, %d, not %v, %d", name, c, flow, got, gotE, want, e)
	}
}

func checkShown(t *testing.T, name string, c api.Curve, l []api.Draw, want api.Span, e api.Errno) {
	t.Helper()
	if got, gotE := curve.Shown(c, l); got != want || gotE != e {
		t.Errorf("%s: %v: Shown of %v returns %v, %d, not %v, %d", name, c, l, got, gotE, want, e)
	}
}

func checkPeak(t *testing.T, name string, c api.Curve, want api.Span, e api.Errno) {
	t.Helper()
	if got, gotE := curve.Peak(c); got != want || gotE != e {
		t.Errorf("%s: %v: Peak returns %v, %d, not %v, %d", name, c, got, gotE, want, e)
	}
}

func checkKeeps(t *testing.T, name string, c api.Curve, l []api.Band, want int, e api.Errno) {
	t.Helper()
	if got, gotE := curve.Keeps(c, l); got != want || gotE != e {
		t.Errorf("%s: %v: Keeps of %v returns %d, %d, not %d, %d", name, c, l, got, gotE, want, e)
	}
}

// checkAll checks that all four functions return the same error for what is known.
func checkAll(t *testing.T, name string, c api.Curve, e api.Errno) {
	t.Helper()
	checkAt(t, name, c, 100, api.Span{}, e)
	checkShown(t, name, c, []api.Draw{draw(100, 5)}, api.Span{}, e)
	checkShown(t, name, c, nil, api.Span{}, e)
	checkPeak(t, name, c, api.Span{}, e)
	checkKeeps(t, name, c, []api.Band{band(100, 200, 5)}, 0, e)
	checkKeeps(t, name, c, nil, 0, e)
}

// example is the meter of the chapter.
func example() api.Curve {
	return kind(10, 1, point(30, -40, -20), point(100, 0, 10), point(500, 5, 15), point(1000, -10, 4))
}

func TestExamples(t *testing.T) {
	c := example()
	checkAt(t, "example", c, 5, span(-1000, -1000), api.OK)
	checkAt(t, "example", c, 30, span(-40, -20), api.OK)
	checkAt(t, "example", c, 60, span(-40, 10), api.OK)
	checkAt(t, "example", c, 100, span(0, 10), api.OK)
	checkAt(t, "example", c, 300, span(0, 210), api.OK)
	checkAt(t, "example", c, 1000, span(-10, 4), api.OK)
	checkAt(t, "example", c, 2000, span(-1000, 4), api.OK)
	checkShown(t, "example", c, []api.Draw{draw(100, 1000)}, span(1000, 1010), api.OK)
	checkShown(t, "example", c, []api.Draw{draw(30, 1000), draw(100, 1000)}, span(1960, 1990), api.OK)
	checkPeak(t, "example", c, span(55, 999), api.OK)
	checkKeeps(t, "example", c, []api.Band{band(100, 1000, 50)}, api.SomeCurves, api.OK)
	checkKeeps(t, "example", c, []api.Band{band(100, 100, 10)}, api.AllCurves, api.OK)
	checkKeeps(t, "example", c, []api.Band{band(30, 30, 19)}, api.NoCurve, api.OK)
}

// badCurves returns what is not valid, some of it so that there would be no curve either.
func badCurves() map[string]api.Curve {
	var many []api.Point
	for i := range api.MaxPoints + 1 {
		many = append(many, point(100+i, -5, 5))
	}
	return map[string]api.Curve{
		"start below 0":                   kind(-1, 1, point(30, 0, 0)),
		"start beyond all flows":          kind(api.MaxFlow+1, 1),
		"the greatest start of all":       kind(math.MaxInt, 1),
		"the least start of all":          kind(math.MinInt, 1),
		"steep below 0":                   kind(10, -1),
		"too steep":                       kind(10, 1001, point(30, 0, 0)),
		"the greatest steep of all":       kind(10, math.MaxInt),
		"the least steep of all":          kind(10, math.MinInt),
		"too many points":                 kind(10, 1, many...),
		"a point less than start":         kind(10, 1, point(9, 0, 0)),
		"a point below 0":                 kind(0, 1, point(-1, 0, 0)),
		"a point beyond all flows":        kind(10, 1, point(api.MaxFlow+1, 0, 0)),
		"the greatest point of all":       kind(10, 1, point(math.MaxInt, 0, 0)),
		"the least point of all":          kind(10, 1, point(math.MinInt, 0, 0)),
		"two points at a flow":            kind(10, 1, point(30, 0, 5), point(30, 0, 5)),
		"points that fall":                kind(10, 1, point(30, 0, 5), point(29, 0, 5)),
		"the last point at a flow before": kind(10, 1, point(30, 0, 5), point(40, 0, 5), point(40, 0, 5)),
		"an error that is no span":        kind(10, 1, point(30, 1, 0)),
		"the error of the last, no span":  kind(10, 1, point(30, 0, 0), point(40, 0, -1)),
		"an error too little":             kind(10, 1, point(30, -1001, 0)),
		"an error too great":              kind(10, 1, point(30, 0, 1001)),
		"the greatest error of all":       kind(10, 1, point(30, 0, math.MaxInt)),
		"the least error of all":          kind(10, 1, point(30, math.MinInt, 0)),
		"errors from end to end":          kind(10, 1, point(30, math.MinInt, math.MaxInt)),
		"both ends too great":             kind(10, 1, point(30, 1001, 1002)),
		"both ends too little":            kind(10, 1, point(30, -1002, -1001)),
		"no curve, and a bad point":       kind(10, 0, point(30, 0, 0), point(40, 5, 5), point(50, 2, 1)),
	}
}

// badDraws and badBands are no draws, and no bands.
func badDraws() []api.Draw {
	return []api.Draw{draw(-1, 5), draw(api.MaxFlow+1, 5), draw(5, -1), draw(5, api.MaxLitres+1), draw(math.MinInt, 0), draw(math.MaxInt, 0), draw(0, math.MinInt), draw(0, math.MaxInt)}
}

func badBands() []api.Band {
	return []api.Band{band(-1, 5, 5), band(5, api.MaxFlow+1, 5), band(6, 5, 5), band(5, 6, -1), band(5, 6, 1001), band(math.MinInt, 5, 5), band(5, math.MaxInt, 5), band(math.MaxInt, math.MinInt, 0), band(5, 6, math.MinInt), band(5, 6, math.MaxInt), band(-2, -1, 1000), band(api.MaxFlow+1, api.MaxFlow+2, 1000)}
}

func badFlows() []int { return []int{-1, api.MaxFlow + 1, math.MinInt, math.MaxInt} }

// ErrArg comes before all other errors, which hold here as well.
func TestBadCurves(t *testing.T) {
	for name, c := range badCurves() {
		checkAll(t, name, c, api.ErrArg)
		for _, flow := range badFlows() {
			checkAt(t, name, c, flow, api.Span{}, api.ErrArg)
		}
		checkShown(t, name, c, make([]api.Draw, api.MaxDraws+1), api.Span{}, api.ErrArg)
		checkShown(t, name, c, badDraws()[:1], api.Span{}, api.ErrArg)
		checkKeeps(t, name, c, make([]api.Band, api.MaxBands+1), 0, api.ErrArg)
		checkKeeps(t, name, c, badBands()[:1], 0, api.ErrArg)
	}
}

// kindsWithoutCurves returns what is valid, but has no curve.
func kindsWithoutCurves() map[string]api.Curve {
	return map[string]api.Curve{
		"it falls, and rises again":    kind(10, 1, point(100, 1, 5), point(200, -5, 0), point(300, 1, 5)),
		"it rises too steep":           kind(10, 1, point(100, -5, 0), point(110, 11, 20)),
		"it falls too steep":           kind(10, 1, point(100, 11, 20), point(110, -5, 0)),
		"it would change, not steep":   kind(10, 0, point(100, 0, 0), point(200, 1, 1)),
		"no room for a peak between":   kind(0, 1, point(99, 0, 0), point(100, 2, 2), point(101, 0, 0)),
		"two peaks":                    kind(10, 3, point(100, 5, 5), point(150, 2, 2), point(151, 3, 3), point(200, 1, 1)),
		"two peaks, three points away": kind(10, 1, point(20, 9, 9), point(30, 0, 9), point(40, 0, 8), point(50, 9, 9)),
	}
}

// ErrState comes last, and for all functions.
func TestNoCurve(t *testing.T) {
	long, longer := make([]api.Draw, api.MaxDraws+1), make([]api.Band, api.MaxBands+1)
	for name, c := range kindsWithoutCurves() {
		checkAll(t, name, c, api.ErrState)
		checkAt(t, name+", and a flow less than start", c, 0, api.Span{}, api.ErrState)
		checkAt(t, name+", and at a point", c, c.Points[0].Flow, api.Span{}, api.ErrState)
		checkAt(t, name+", and no flow", c, -1, api.Span{}, api.ErrRange)
		checkShown(t, name+", and too many draws", c, long, api.Span{}, api.ErrLong)
		checkShown(t, name+", and no draw", c, badDraws()[:1], api.Span{}, api.ErrRange)
		checkKeeps(t, name+", and too many bands", c, longer, 0, api.ErrLong)
		checkKeeps(t, name+", and no band", c, badBands()[:1], 0, api.ErrRange)
		checkKeeps(t, name+", and a band that all keep", c, []api.Band{band(0, api.MaxFlow, 1000)}, 0, api.ErrState)
	}
	checkPeak(t, "just room for the change", kind(10, 1, point(100, -5, 0), point(110, 10, 20)), span(110, api.MaxFlow), api.OK)
	checkPeak(t, "just room for a peak", kind(0, 1, point(99, 0, 0), point(100, 1, 2), point(101, 0, 0)), span(100, 100), api.OK)
}

// ErrLong comes before ErrRange, ErrRange for any of a list.
func TestListErrors(t *testing.T) {
	c := example()
	for _, flow := range badFlows() {
		checkAt(t, "no flow", c, flow, api.Span{}, api.ErrRange)
	}
	good := slices.Repeat([]api.Draw{draw(100, 1)}, api.MaxDraws)
	checkShown(t, "the most draws", c, good, span(10, 11), api.OK)
	checkShown(t, "too many draws", c, append(good[:len(good):len(good)], draw(100, 1)), api.Span{}, api.ErrLong)
	for _, d := range badDraws() {
		checkShown(t, "no draw", c, []api.Draw{d}, api.Span{}, api.ErrRange)
		checkShown(t, "the first is no draw", c, append([]api.Draw{d}, good[1:]...), api.Span{}, api.ErrRange)
		checkShown(t, "the last is no draw", c, append(slices.Clone(good[1:]), d), api.Span{}, api.ErrRange)
		checkShown(t, "too many draws, the first is none", c, append([]api.Draw{d}, good...), api.Span{}, api.ErrLong)
	}
	bands := slices.Repeat([]api.Band{band(100, 100, 10)}, api.MaxBands)
	checkKeeps(t, "the most bands", c, bands, api.AllCurves, api.OK)
	checkKeeps(t, "too many bands", c, append(bands[:len(bands):len(bands)], band(100, 100, 10)), 0, api.ErrLong)
	for _, b := range badBands() {
		checkKeeps(t, "no band", c, []api.Band{b}, 0, api.ErrRange)
		checkKeeps(t, "the first is no band", c, append([]api.Band{b}, bands[1:]...), 0, api.ErrRange)
		checkKeeps(t, "the last is no band", c, append(slices.Clone(bands[1:]), b), 0, api.ErrRange)
		checkKeeps(t, "no band after one that none keeps", c, []api.Band{band(30, 30, 19), b}, 0, api.ErrRange)
		checkKeeps(t, "too many bands, the first is none", c, append([]api.Band{b}, bands...), 0, api.ErrLong)
	}
}

// Limits themselves are valid.
func TestLimits(t *testing.T) {
	var points []api.Point
	for i := range api.MaxPoints {
		points = append(points, point(10_000*(i+1), -1000, 1000))
	}
	full := kind(api.MaxFlow/10, api.MaxWrong, points...)
	checkAt(t, "the most of all", full, api.MaxFlow, span(-1000, 1000), api.OK)
	checkPeak(t, "the most of all", full, span(10_000, api.MaxFlow), api.OK)
	checkShown(t, "the most of all", full, slices.Repeat([]api.Draw{draw(api.MaxFlow, api.MaxLitres)}, api.MaxDraws), span(0, 20*api.MaxLitres), api.OK)
	checkKeeps(t, "the most of all", full, slices.Repeat([]api.Band{band(0, api.MaxFlow, api.MaxWrong)}, api.MaxBands), api.AllCurves, api.OK)
	checkAt(t, "errors at both limits", kind(0, 1000, point(0, -1000, -1000), point(2, 1000, 1000)), 1, span(0, 0), api.OK)
}

// P3.1: flows less than Start, no points, ordinary points, peaks between points, and errors that cannot be greater than 1000.
func TestAt(t *testing.T) {
	checkAt(t, "the flow before start", example(), 9, span(-1000, -1000), api.OK)
	checkAt(t, "the flow 0, before start", example(), 0, span(-1000, -1000), api.OK)
	checkAt(t, "start itself", example(), 10, span(-60, -20), api.OK)
	checkAt(t, "between start and the first point", example(), 29, span(-41, -20), api.OK)
	checkAt(t, "the last flow", example(), api.MaxFlow, span(-1000, 4), api.OK)
	checkAt(t, "from the last point on it falls", example(), 1001, span(-11, 4), api.OK)
	checkAt(t, "no points", kind(50, 3), 49, span(-1000, -1000), api.OK)
	checkAt(t, "no points", kind(50, 3), 50, span(-1000, 1000), api.OK)
	checkAt(t, "no points, start 0", kind(0, 0), 0, span(-1000, 1000), api.OK)
	checkAt(t, "no points, start at the last flow", kind(api.MaxFlow, 5), api.MaxFlow, span(-1000, 1000), api.OK)
	checkAt(t, "no points, start at the last flow", kind(api.MaxFlow, 5), api.MaxFlow-1, span(-1000, -1000), api.OK)
	checkAt(t, "a point at the only flow", kind(api.MaxFlow, 5, point(api.MaxFlow, 3, 4)), api.MaxFlow, span(3, 4), api.OK)
	checkAt(t, "a peak between points", kind(0, 2, point(100, 0, 0), point(110, 0, 0)), 105, span(0, 10), api.OK)
	checkAt(t, "a peak between points", kind(0, 2, point(100, 0, 0), point(111, 0, 0)), 105, span(0, 10), api.OK)
	checkAt(t, "a peak between points", kind(0, 2, point(100, 0, 0), point(111, 0, 0)), 106, span(0, 10), api.OK)
	checkAt(t, "a peak between points, no higher than 1000", kind(0, 900, point(100, 0, 0), point(110, 0, 0)), 105, span(0, 1000), api.OK)
	checkAt(t, "one point", kind(0, 1, point(100, 5, 8)), 90, span(-5, 18), api.OK)
	checkAt(t, "one point, not steep", kind(0, 0, point(100, 5, 8)), 90, span(5, 8), api.OK)
	checkAt(t, "a point that narrows another one", kind(0, 1, point(100, 0, 0), point(103, -50, 50)), 103, span(-3, 3), api.OK)
	checkAt(t, "a point narrower, as the error cannot rise again", kind(0, 1, point(100, 9, 9), point(110, 0, 20), point(120, 6, 6)), 110, span(6, 16), api.OK)
	checkAt(t, "and the same where it has to fall", kind(0, 1, point(100, 9, 9), point(110, 0, 8), point(120, 6, 6)), 110, span(6, 8), api.OK)
	checkAt(t, "the error can fall from the first flow on", kind(0, 1, point(100, 9, 9), point(110, 0, 8), point(120, 6, 6)), 50, span(-41, 59), api.OK)
	checkAt(t, "the error cannot fall before it rises", kind(0, 1, point(100, 9, 9), point(110, 10, 10)), 50, span(-41, 9), api.OK)
}

// P3.2: the same curve for all draws, and rounding, also where the error is below 0.
func TestShown(t *testing.T) {
	c := kind(0, 1, point(100, 0, 0), point(200, 0, 0))
	checkShown(t, "no draws", c, nil, span(0, 0), api.OK)
	checkShown(t, "an empty list", c, []api.Draw{}, span(0, 0), api.OK)
	checkShown(t, "a draw of nothing", c, []api.Draw{draw(150, 0)}, span(0, 0), api.OK)
	checkShown(t, "left of the points", c, []api.Draw{draw(50, 1000)}, span(950, 1050), api.OK)
	checkShown(t, "between the points", c, []api.Draw{draw(120, 1000)}, span(1000, 1020), api.OK)
	checkShown(t, "at both sides of the peak", c, []api.Draw{draw(120, 1000), draw(180, 1000)}, span(2000, 2040), api.OK)
	still := kind(10, 1, point(30, -40, -20))
	checkShown(t, "less than start", still, []api.Draw{draw(9, 1000)}, span(0, 0), api.OK)
	checkShown(t, "less than start, and more", still, []api.Draw{draw(9, 1000), draw(30, 1000), draw(0, 7)}, span(960, 980), api.OK)
	checkShown(t, "a draw twice", still, []api.Draw{draw(30, 1000), draw(30, 1000)}, span(1920, 1960), api.OK)

	for _, s := range []struct {
		litres, lo, hi int
		want           api.Span
	}{
		{1, -1, -1, span(0, 1)}, {1, 1, 1, span(1, 2)}, {1, 0, 0, span(1, 1)}, {1, -1000, -1000, span(0, 0)}, {1, -999, -999, span(0, 1)},
		{1, 1000, 1000, span(2, 2)}, {1, 999, 999, span(1, 2)}, {3, -500, -500, span(1, 2)}, {2, -500, 500, span(1, 3)}, {7, -143, 143, span(5, 9)},
		{999, -1, 1, span(998, 1000)}, {1000, -1, 1, span(999, 1001)}, {1001, -1, 1, span(999, 1003)},
		{api.MaxLitres, -1000, 1000, span(0, 2*api.MaxLitres)}, {api.MaxLitres, 1, 1, span(1_074_815_565, 1_074_815_566)}, {api.MaxLitres, -1, -1, span(1_072_668_082, 1_072_668_083)},
	} {
		checkShown(t, "rounding", kind(0, 5, point(100, s.lo, s.hi)), []api.Draw{draw(100, s.litres)}, s.want, api.OK)
	}
	checkShown(t, "rounded once, not for each draw", kind(0, 5, point(100, -1, 1)), []api.Draw{draw(100, 500), draw(100, 500)}, span(999, 1001), api.OK)
	checkShown(t, "rounded once, each below 1", kind(0, 0, point(100, -900, -900)), slices.Repeat([]api.Draw{draw(100, 1)}, 10), span(1, 1), api.OK)
}

// P3.2: where the ends of several draws together are not those of each, added up.
func TestShownOfOneCurve(t *testing.T) {
	flat := kind(0, 0, point(100, -10, 10), point(900, -20, 5))
	checkShown(t, "the same error everywhere", flat, []api.Draw{draw(50, 1000), draw(950, 1000)}, span(1980, 2010), api.OK)

	// An error above 0 before the point falls to it, and so it does not rise after it.
	one := kind(0, 1, point(500, 0, 0))
	checkAt(t, "before the point", one, 400, span(-100, 100), api.OK)
	checkAt(t, "after the point", one, 600, span(-100, 100), api.OK)
	checkShown(t, "before and after the point", one, []api.Draw{draw(400, 1000), draw(600, 1000)}, span(1800, 2100), api.OK)
	checkShown(t, "more after the point", one, []api.Draw{draw(400, 1000), draw(600, 3000)}, span(3600, 4300), api.OK)
	checkShown(t, "more before the point", one, []api.Draw{draw(400, 3000), draw(600, 1000)}, span(3600, 4300), api.OK)

	two := kind(0, 1, point(100, -50, 50), point(200, 0, 0))
	checkAt(t, "before the last point", two, 150, span(-50, 50), api.OK)
	checkAt(t, "after the last point", two, 250, span(-50, 50), api.OK)
	checkShown(t, "before and after the last point", two, []api.Draw{draw(150, 1000), draw(250, 1000)}, span(1900, 2050), api.OK)
	checkShown(t, "both before it", two, []api.Draw{draw(150, 1000), draw(160, 1000)}, span(1910, 2090), api.OK)
}

// P3.3: a peak between points, at points, at both ends of all flows, and several peaks of one curve.
func TestPeak(t *testing.T) {
	checkPeak(t, "no points", kind(50, 3), span(50, api.MaxFlow), api.OK)
	checkPeak(t, "no points, not steep", kind(0, 0), span(0, api.MaxFlow), api.OK)
	checkPeak(t, "start at the last flow", kind(api.MaxFlow, 3), span(api.MaxFlow, api.MaxFlow), api.OK)
	checkPeak(t, "one point", kind(50, 1, point(60, 0, 0)), span(50, api.MaxFlow), api.OK)
	checkPeak(t, "between two points", kind(0, 1, point(100, 0, 0), point(110, 4, 4), point(120, 4, 4), point(130, 0, 0)), span(104, 126), api.OK)
	checkPeak(t, "at a point", kind(0, 1, point(100, 0, 0), point(110, 10, 10), point(120, 0, 0)), span(110, 110), api.OK)
	checkPeak(t, "at the second point at least", kind(0, 1, point(100, 0, 0), point(110, 10, 10), point(120, 10, 10)), span(110, api.MaxFlow), api.OK)
	checkPeak(t, "one flow between points", kind(0, 2, point(100, 0, 0), point(110, 19, 20), point(111, 19, 19), point(120, 0, 1)), span(110, 111), api.OK)
	checkPeak(t, "it only rises", kind(0, 1, point(100, 0, 0), point(api.MaxFlow, 1, 1)), span(101, api.MaxFlow), api.OK)
	checkPeak(t, "it only falls", kind(20, 1, point(20, 1, 1), point(100, 0, 0)), span(20, 99), api.OK)
	checkPeak(t, "it rises just in time", kind(20, 10, point(100, 0, 0), point(110, 91, 91)), span(110, api.MaxFlow), api.OK)
	checkPeak(t, "it rises just in time", kind(20, 10, point(100, 0, 0), point(110, 90, 90)), span(109, api.MaxFlow), api.OK)
	checkPeak(t, "several peaks of the only curve", kind(0, 0, point(100, 7, 7)), span(0, api.MaxFlow), api.OK)
	checkPeak(t, "several peaks of one curve", kind(0, 5, point(100, 999, 999), point(110, 1000, 1000), point(130, 1000, 1000), point(131, 999, 999)), span(101, 130), api.OK)
}

// P3.4: no bands, one band and several, a peak in a band between points, and flows less than Start.
func TestKeeps(t *testing.T) {
	c := example()
	checkKeeps(t, "no bands", c, nil, api.AllCurves, api.OK)
	checkKeeps(t, "an empty list", c, []api.Band{}, api.AllCurves, api.OK)
	checkKeeps(t, "any error", c, []api.Band{band(0, api.MaxFlow, 1000)}, api.AllCurves, api.OK)
	checkKeeps(t, "the flow before start", c, []api.Band{band(9, 10, 999)}, api.NoCurve, api.OK)
	checkKeeps(t, "only flows before start", c, []api.Band{band(0, 9, 999)}, api.NoCurve, api.OK)
	checkKeeps(t, "only flows before start, any error", c, []api.Band{band(0, 9, 1000)}, api.AllCurves, api.OK)
	checkKeeps(t, "from start on", c, []api.Band{band(10, 10, 60)}, api.AllCurves, api.OK)
	checkKeeps(t, "from start on", c, []api.Band{band(10, 10, 59)}, api.SomeCurves, api.OK)
	checkKeeps(t, "from start on", c, []api.Band{band(10, 30, 19)}, api.NoCurve, api.OK)
	checkKeeps(t, "the greatest error of all", c, []api.Band{band(100, 1000, 259)}, api.AllCurves, api.OK)
	checkKeeps(t, "one less", c, []api.Band{band(100, 1000, 258)}, api.SomeCurves, api.OK)
	checkKeeps(t, "the least that one can keep", c, []api.Band{band(100, 1000, 5)}, api.SomeCurves, api.OK)
	checkKeeps(t, "one less than that", c, []api.Band{band(100, 1000, 4)}, api.NoCurve, api.OK)
	checkKeeps(t, "one that all keep, and one that none keeps", c, []api.Band{band(100, 100, 10), band(30, 30, 19)}, api.NoCurve, api.OK)
	checkKeeps(t, "one that all keep, and one that some keep", c, []api.Band{band(100, 100, 10), band(100, 1000, 50)}, api.SomeCurves, api.OK)
	checkKeeps(t, "after the last point", c, []api.Band{band(1000, 1010, 20)}, api.AllCurves, api.OK)
	checkKeeps(t, "after the last point", c, []api.Band{band(1000, 1010, 19)}, api.SomeCurves, api.OK)
	checkKeeps(t, "to the last flow", c, []api.Band{band(1000, api.MaxFlow, 999)}, api.SomeCurves, api.OK)
	checkKeeps(t, "a band at the only flow", kind(api.MaxFlow, 5), []api.Band{band(api.MaxFlow, api.MaxFlow, 0)}, api.SomeCurves, api.OK)

	// Each of the two can be kept, but not both: the error rises from the one to the other.
	rises := kind(0, 1, point(100, -10, 10), point(200, 100, 100))
	checkKeeps(t, "the low one", rises, []api.Band{band(100, 100, 0)}, api.SomeCurves, api.OK)
	checkKeeps(t, "the high one", rises, []api.Band{band(110, 110, 10)}, api.SomeCurves, api.OK)
	checkKeeps(t, "the one between", rises, []api.Band{band(190, 190, 90)}, api.SomeCurves, api.OK)
	checkKeeps(t, "both", rises, []api.Band{band(100, 100, 10), band(190, 190, 90)}, api.SomeCurves, api.OK)
	checkKeeps(t, "none, as it has to rise", rises, []api.Band{band(190, 190, 89)}, api.NoCurve, api.OK)
	apart := kind(0, 1, point(100, 0, 20), point(110, 10, 20), point(120, 0, 20))
	checkKeeps(t, "low at the first", apart, []api.Band{band(100, 100, 4)}, api.SomeCurves, api.OK)
	checkKeeps(t, "low before the middle", apart, []api.Band{band(104, 104, 4)}, api.SomeCurves, api.OK)
	checkKeeps(t, "low in the middle", apart, []api.Band{band(110, 110, 10)}, api.SomeCurves, api.OK)
	checkKeeps(t, "too low in the middle", apart, []api.Band{band(105, 110, 9)}, api.NoCurve, api.OK)

	// A peak between points is in the band, though neither of the points is near its limit.
	peak := kind(0, 1, point(100, 0, 0), point(200, 0, 0))
	checkKeeps(t, "a peak between points", peak, []api.Band{band(100, 200, 50)}, api.AllCurves, api.OK)
	checkKeeps(t, "a peak between points", peak, []api.Band{band(100, 200, 49)}, api.SomeCurves, api.OK)
	checkKeeps(t, "a peak between points", peak, []api.Band{band(100, 200, 0)}, api.SomeCurves, api.OK)
	checkKeeps(t, "a peak before the band", peak, []api.Band{band(170, 200, 30)}, api.AllCurves, api.OK)
	checkKeeps(t, "a peak before the band", peak, []api.Band{band(170, 200, 29)}, api.SomeCurves, api.OK)
	checkKeeps(t, "a peak after the band", peak, []api.Band{band(100, 120, 20)}, api.AllCurves, api.OK)
	checkKeeps(t, "a peak after the band", peak, []api.Band{band(100, 120, 19)}, api.SomeCurves, api.OK)
	for _, c := range []api.Curve{kind(0, 10, point(100, 0, 0), point(102, -4, 4)), kind(0, 10, point(100, -4, 4), point(102, 0, 0))} {
		checkKeeps(t, "a peak not half-way", c, []api.Band{band(100, 102, 10)}, api.AllCurves, api.OK)
		checkKeeps(t, "a peak not half-way", c, []api.Band{band(100, 102, 9)}, api.SomeCurves, api.OK)
	}
}

// P1 and R2: whatever the arguments are, each function ends, and with an error all other results are zero values.
func TestAnyArguments(t *testing.T) {
	wild := []int{math.MinInt, math.MinInt + 1, -1001, -1000, -1, 0, 1, 5, 1000, 1001, api.MaxFlow, api.MaxFlow + 1, api.MaxLitres, math.MaxInt - 1, math.MaxInt}
	r := rand.New(rand.NewSource(11))
	anyInt := func() int { return pick(r, wild[r.Intn(len(wild))], r.Intn(100), r.Intn(api.MaxFlow)) }
	valid := 0
	for range 20_000 {
		c := kind(anyInt(), anyInt())
		if r.Intn(2) == 0 {
			c = kind(r.Intn(50), r.Intn(1001))
		}
		for range r.Intn(4) * r.Intn(5) {
			c.Points = append(c.Points, point(anyInt(), anyInt(), anyInt()))
		}
		var draws []api.Draw
		var bands []api.Band
		for range r.Intn(4) * r.Intn(5) {
			draws = append(draws, draw(anyInt(), anyInt()))
			bands = append(bands, band(anyInt(), anyInt(), anyInt()))
		}
		at, e1 := curve.At(c, anyInt())
		shown, e2 := curve.Shown(c, draws)
		peak, e3 := curve.Peak(c)
		kept, e4 := curve.Keeps(c, bands)
		if e1 != api.OK && at != (api.Span{}) || e2 != api.OK && shown != (api.Span{}) || e3 != api.OK && peak != (api.Span{}) || e4 != api.OK && kept != 0 {
			t.Fatal(c, draws, bands, at, e1, shown, e2, peak, e3, kept, e4)
		}
		if e3 == api.OK {
			valid++
		}
	}
	if valid < 1000 {
		t.Error("too few kinds have curves", valid)
	}
}
