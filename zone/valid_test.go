package zone_test

import (
	"math"
	"math/rand"
	"slices"
	"testing"

	"meterworks/api"
	"meterworks/zone"
)

// checkAll checks that each function returns the same error, with whatever nights.
func checkAll(t *testing.T, name string, l []api.Zone, nights []api.Night, e api.Errno) {
	t.Helper()
	t.Run(name, func(t *testing.T) {
		t.Helper()
		checkOwn(t, l, nil, e)
		checkLosses(t, l, nil, e)
		checkWrong(t, l, 0, e)
		checkLeaks(t, l, nights, nil, e)
		checkFirst(t, l, nights, 0, e)
	})
}

func withIn(s api.Span) func(z *api.Zone)     { return func(z *api.Zone) { z.In = s } }
func withMeters(s api.Span) func(z *api.Zone) { return func(z *api.Zone) { z.Meters = s } }
func withError(s api.Span) func(z *api.Zone)  { return func(z *api.Zone) { z.Error = s } }
func withLawful(s api.Span) func(z *api.Zone) { return func(z *api.Zone) { z.Lawful = s } }
func withPart(n int) func(z *api.Zone)        { return func(z *api.Zone) { z.Part = n } }

// badLitres are spans that are not valid within 0 to MaxLitres.
func badLitres() map[string]api.Span {
	return map[string]api.Span{
		"below 0":          span(-1, 5),
		"all below 0":      span(-2, -1),
		"far below 0":      span(math.MinInt, 5),
		"too great":        span(5, api.MaxLitres+1),
		"all too great":    span(api.MaxLitres+1, api.MaxLitres+1),
		"far too great":    span(5, math.MaxInt),
		"wrong way round":  span(6, 5),
		"round by all":     span(api.MaxLitres, 0),
		"both ends beyond": span(-1, api.MaxLitres+1),
		"beyond all":       span(math.MinInt, math.MaxInt),
		"none":             none(),
	}
}

// badZones change a zone of the example to one that is not valid, also if it is not the first one.
func badZones() map[string]func(z *api.Zone) {
	bad := map[string]func(z *api.Zone){
		"Error too little":            withError(span(-api.MaxThou-1, 0)),
		"Error far too little":        withError(span(math.MinInt, 0)),
		"all of Error too little":     withError(just(-api.MaxThou - 1)),
		"Error too great":             withError(span(0, api.MaxThou+1)),
		"Error far too great":         withError(span(0, math.MaxInt)),
		"all of Error too great":      withError(just(api.MaxThou + 1)),
		"Error the wrong way round":   withError(span(1, 0)),
		"Error below 0, turned round": withError(span(-1, -2)),
		"Error that divides by 0":     withError(just(-1000)),
		"a part of less than none":    withPart(-2),
		"a part of far less":          withPart(math.MinInt),
		"a part of a zone after all":  withPart(3),
		"a part of far more":          withPart(math.MaxInt),
	}
	for name, s := range badLitres() {
		bad["In "+name] = withIn(s)
		bad["Meters "+name] = withMeters(s)
		bad["Lawful "+name] = withLawful(s)
	}
	return bad
}

// ErrArg comes first: zones that are not valid, with valid nights, with too few, and with wrong ones.
func TestWrongZones(t *testing.T) {
	for name, change := range badZones() {
		for i := range exampleZones() {
			l := changed(i, change)
			checkAll(t, name, l, exampleNights(), api.ErrArg)
			checkAll(t, "no nights, "+name, l, nil, api.ErrArg)
			checkAll(t, "wrong nights, "+name, l, make([]api.Night, 2), api.ErrArg)
			l = wrongZones()
			change(&l[i])
			checkAll(t, "no truth, "+name, l, exampleNights(), api.ErrArg)
		}
	}
}

// ErrArg for lists that are too short or too long, and for a part of what comes no earlier.
func TestWrongLists(t *testing.T) {
	for name, l := range map[string][]api.Zone{
		"no zones":                  nil,
		"no zones, an empty list":   {},
		"too many zones":            slices.Repeat([]api.Zone{loses(0, 5, -1)}, api.MaxZones+1),
		"far too many zones":        make([]api.Zone, 100),
		"a part of itself":          {loses(0, 5, 0)},
		"a later part of itself":    {loses(0, 5, -1), loses(0, 5, 1)},
		"a part of the next one":    {loses(0, 5, 1), loses(0, 5, -1)},
		"a part of a later one":     {loses(0, 5, -1), loses(0, 5, 2), loses(0, 5, 0)},
		"parts of one another":      {loses(0, 5, 1), loses(0, 5, 0)},
		"a part of what is not one": {loses(0, 5, -1), loses(0, 5, 2)},
		"all zones are zero values": make([]api.Zone, 3),
	} {
		for nights := range len(l) + 2 {
			checkAll(t, name, l, make([]api.Night, nights), api.ErrArg)
		}
	}
}

// ErrLong unless there are as many nights as zones, whatever they are, and whether there is a truth or not.
func TestTooManyNights(t *testing.T) {
	for _, l := range [][]api.Zone{exampleZones(), wrongZones()} {
		for _, n := range []int{0, 1, 2, 4, 5, 100} {
			for _, one := range []api.Night{{}, leaks(1, 2), leaks(-1, 2)} {
				nights := slices.Repeat([]api.Night{one}, n)
				checkLeaks(t, l, nights, nil, api.ErrLong)
				checkFirst(t, l, nights, 0, api.ErrLong)
			}
		}
	}
}

// ErrRange unless all nights are valid, whether there is a truth or not.
func TestWrongNights(t *testing.T) {
	bad := map[string]func(n *api.Night){
		"Hours below 0":             func(n *api.Night) { n.Hours.Lo = -1 },
		"Hours far below 0":         func(n *api.Night) { n.Hours.Lo = math.MinInt },
		"all Hours below 0":         func(n *api.Night) { n.Hours = span(-2, -1) },
		"Hours too many":            func(n *api.Night) { n.Hours.Hi = api.MaxHours + 1 },
		"Hours far too many":        func(n *api.Night) { n.Hours.Hi = math.MaxInt },
		"all Hours too many":        func(n *api.Night) { n.Hours = just(api.MaxHours + 1) },
		"Hours the wrong way round": func(n *api.Night) { n.Hours = span(2, 1) },
	}
	for name, s := range badLitres() {
		bad["Flow "+name] = func(n *api.Night) { n.Flow = s }
		bad["Use "+name] = func(n *api.Night) { n.Use = s }
	}
	for name, change := range bad {
		t.Run(name, func(t *testing.T) {
			for i := range exampleNights() {
				nights := exampleNights()
				change(&nights[i])
				checkLeaks(t, exampleZones(), nights, nil, api.ErrRange)
				checkFirst(t, exampleZones(), nights, 0, api.ErrRange)
				checkFirst(t, wrongZones(), nights, 0, api.ErrRange)
				checkFirst(t, chain(just(0), just(0), just(0)), nights, 0, api.ErrRange)
			}
		})
	}
}

// All limits are reached, and none is passed.
func TestLimits(t *testing.T) {
	all := span(0, api.MaxLitres)
	widest := of(all, all, span(-api.MaxThou, api.MaxThou), all, -1)
	alone := slices.Repeat([]api.Zone{widest}, api.MaxZones)
	inARow, ofOne := slices.Clone(alone), slices.Clone(alone)
	for i := range alone {
		inARow[i].Part = i - 1
		ofOne[i].Part = min(0, i-1)
	}
	most := just(api.MaxLitres)
	latest := night(most, just(0), just(api.MaxHours))
	nights := slices.Repeat([]api.Night{latest}, api.MaxZones)
	for _, l := range [][]api.Zone{alone, inARow, ofOne} {
		checkOwn(t, l, slices.Repeat([]api.Span{all}, api.MaxZones), api.OK)
		checkLosses(t, l, slices.Repeat([]api.Span{all}, api.MaxZones), api.OK)
		checkWrong(t, l, 0, api.ErrNone)
		checkLeaks(t, l, nights, slices.Repeat([]api.Span{just(api.MaxLitres * api.MaxHours)}, api.MaxZones), api.OK)
	}
	checkFirst(t, alone, nights, 0, api.OK)
	checkFirst(t, inARow, nights, api.MaxZones-1, api.OK)
	checkFirst(t, ofOne, nights, 1, api.OK)
	for i := range ofOne {
		ofOne[i].In, ofOne[i].Meters, ofOne[i].Lawful = most, just(0), just(0)
	}
	checkOwn(t, ofOne, slices.Repeat([]api.Span{most}, api.MaxZones), api.OK)
	checkWrong(t, ofOne, 0, api.OK)
}

// R4 and P9.6: no argument is changed, and results share no memory with them, nor with each other.
func TestMemory(t *testing.T) {
	l, nights := exampleZones(), exampleNights()
	for range 2 {
		own, _ := zone.Own(l)
		losses, _ := zone.Losses(l)
		leak, _ := zone.Leaks(l, nights)
		TestExamples(t)
		checkOwn(t, l, own, api.OK)
		checkLosses(t, l, losses, api.OK)
		checkLeaks(t, l, nights, leak, api.OK)
		for _, out := range [][]api.Span{own, losses, leak} {
			was := slices.Clone(out)
			again := out[:cap(out)]
			for i := range again {
				again[i] = span(-7, -8)
			}
			if slices.Equal(was, out) {
				t.Error("nothing was overwritten", was, out)
			}
		}
		checkWrong(t, l, 0, api.ErrNone)
		checkFirst(t, l, nights, 1, api.OK)
	}
	if !slices.Equal(l, exampleZones()) || !slices.Equal(nights, exampleNights()) {
		t.Error("an argument was changed", l, nights)
	}
}

// P1 and R2: whatever the arguments are, each function ends, and with an error all other results are zero values.
func TestAnyArguments(t *testing.T) {
	r := rand.New(rand.NewSource(1))
	wild := []int{math.MinInt, -1001, -1000, -999, -501, -500, -1, 0, 1, 2, 12, 500, 501, 1000, 1001, api.MaxLitres, api.MaxLitres + 1, math.MaxInt}
	anyInt := func() int {
		if r.Intn(100) == 0 {
			return pick(r, wild...)
		}
		return r.Intn(pick(r, 2, 9, 100, 1000))
	}
	anySpan := func() api.Span {
		lo := anyInt()
		return span(lo, pick(r, lo, anyInt()+min(lo, 1000), anyInt()+min(lo, 1000)))
	}
	seen := map[string]int{}
	for range 20_000 {
		var l []api.Zone
		var nights []api.Night
		for i := range pick(r, r.Intn(api.MaxZones+2), r.Intn(4)) {
			part := pick(r, -1, -1, r.Intn(i+1)-1, r.Intn(i+1)-1)
			if r.Intn(50) == 0 {
				part = anyInt()
			}
			wrong := pick(r, just(0), span(-r.Intn(500), r.Intn(500)), span(-r.Intn(500), anyInt()%501))
			l = append(l, of(span(anyInt(), 1000+anyInt()), anySpan(), wrong, anySpan(), part))
			nights = append(nights, night(anySpan(), anySpan(), anySpan()))
		}
		if r.Intn(20) == 0 {
			nights = nights[:len(nights)/2]
		}
		own, e1 := zone.Own(l)
		losses, e2 := zone.Losses(l)
		wrong, e3 := zone.Wrong(l)
		leak, e4 := zone.Leaks(l, nights)
		first, e5 := zone.First(l, nights)
		for name, is := range map[string]struct {
			e    api.Errno
			zero bool
		}{
			"Own":    {e1, len(own) == 0},
			"Losses": {e2, len(losses) == 0},
			"Wrong":  {e3, wrong == 0},
			"Leaks":  {e4, len(leak) == 0},
			"First":  {e5, first == 0},
		} {
			if is.e == api.OK {
				seen[name]++
			} else if !is.zero {
				t.Fatal(name, l, nights, "has the error", is.e, "and a result")
			}
		}
	}
	for _, name := range []string{"Own", "Losses", "Wrong", "Leaks", "First"} {
		if seen[name] < 200 {
			t.Error("too few arguments are valid", name, seen)
		}
	}
}
