package travel_test

import (
	"math"
	"math/rand"
	"slices"
	"testing"

	"meterworks/api"
	"meterworks/travel"
)

func span(lo, hi int) api.Span { return api.Span{Lo: lo, Hi: hi} }

// round returns a round: for each trip a bench, a meter, and two errors.
func round(benches, meters, most int, l ...int) api.Round {
	r := api.Round{Benches: benches, Meters: meters, Most: most}
	for i := 0; i < len(l); i += 4 {
		r.Trips = append(r.Trips, api.Trip{Bench: l[i], Meter: l[i+1], Error: span(l[i+2], l[i+3])})
	}
	return r
}

func exampleRound() api.Round {
	return round(3, 2, 10, 0, 0, 100, 104, 1, 0, 98, 102, 2, 0, 140, 144, 0, 1, -50, -46, 2, 1, -8, -4, 1, 1, -53, -49)
}

func checkFits(t *testing.T, name string, r api.Round, off int, want bool, e api.Errno) {
	t.Helper()
	if got, f := travel.Fits(r, off); got != want || f != e {
		t.Error("Fits", name, r, off, "is", got, f, "and not", want, e)
	}
}

func checkConvict(t *testing.T, name string, r api.Round, want int, e api.Errno) {
	t.Helper()
	if got, f := travel.Convict(r); got != want || f != e {
		t.Error("Convict", name, r, "is", got, f, "and not", want, e)
	}
}

func checkFault(t *testing.T, name string, r api.Round, off, bench int, want api.Span, e api.Errno) {
	t.Helper()
	if got, f := travel.Fault(r, off, bench); got != want || f != e {
		t.Error("Fault", name, r, off, bench, "is", got, f, "and not", want, e)
	}
}

func checkError(t *testing.T, name string, r api.Round, off, meter int, want api.Span, e api.Errno) {
	t.Helper()
	if got, f := travel.Error(r, off, meter); got != want || f != e {
		t.Error("Error", name, r, off, meter, "is", got, f, "and not", want, e)
	}
}

func checkClash(t *testing.T, name string, r api.Round, off int, want []int, e api.Errno) {
	t.Helper()
	if got, f := travel.Clash(r, off); !slices.Equal(got, want) || f != e {
		t.Error("Clash", name, r, off, "is", got, f, "and not", want, e)
	}
}

// checkFirst checks that each function that is told a suspicion returns an error that comes before all others.
func checkFirst(t *testing.T, name string, r api.Round, off int, e api.Errno) {
	t.Helper()
	checkFits(t, name, r, off, false, e)
	checkClash(t, name, r, off, nil, e)
	for _, which := range []int{0, -1, 6, math.MinInt, math.MaxInt} {
		checkFault(t, name, r, off, which, api.Span{}, e)
		checkError(t, name, r, off, which, api.Span{}, e)
	}
}

// The chapter's examples, and what else is known of them.
func TestExamples(t *testing.T) {
	r := exampleRound()
	for off, want := range map[int]bool{api.AllRight: false, 0: false, 1: false, 2: true} {
		checkFits(t, "example", r, off, want, api.OK)
	}
	checkConvict(t, "example", r, 2, api.OK)
	for bench, want := range []api.Span{span(-10, 10), span(-10, 10), span(31, 54)} {
		checkFault(t, "example", r, 2, bench, want, api.OK)
	}
	checkError(t, "example", r, 2, 0, span(90, 112), api.OK)
	checkError(t, "example", r, 2, 1, span(-60, -39), api.OK)
	checkClash(t, "example", r, api.AllRight, []int{0, 2}, api.OK)
	checkClash(t, "example", r, 0, []int{1, 2}, api.OK)
	checkClash(t, "example", r, 1, []int{0, 2}, api.OK)
	checkClash(t, "example", r, 2, nil, api.ErrNone)
	two, other, doubt := r, r, r
	two.Trips = r.Trips[:2]
	other.Trips = slices.Clone(r.Trips[:3])
	other.Trips[2].Meter = 1
	doubt.Trips = []api.Trip{r.Trips[0], r.Trips[2]}
	checkConvict(t, "the first two trips", two, 0, api.ErrNone)
	checkConvict(t, "the trip 2 with another meter", other, 0, api.ErrNone)
	checkConvict(t, "the trips 0 and 2", doubt, 0, api.ErrDoubt)
}

// P5.1: what just fits, and what just does not.
func TestFits(t *testing.T) {
	for _, s := range []struct {
		name string
		r    api.Round
		fit  []int
	}{
		{"no trips", round(3, 2, 0), []int{-1, 0, 1, 2}},
		{"one bench, one meter", round(1, 1, 0, 0, 0, 7, 9), []int{-1, 0}},
		{"a bench against itself", round(1, 1, api.MaxFound, 0, 0, 7, 9, 0, 0, 10, 12), nil},
		{"a bench against itself, beside others", round(3, 2, api.MaxFound, 1, 1, 7, 9, 1, 1, 10, 12), nil},
		{"a trip twice", round(1, 1, 0, 0, 0, 7, 9, 0, 0, 7, 9), []int{-1, 0}},
		{"trips that meet in one number", round(1, 1, 0, 0, 0, 7, 9, 0, 0, 9, 12), []int{-1, 0}},
		{"two benches, just as far apart as they can be", round(2, 1, 5, 0, 0, 0, 2, 1, 0, 12, 20), []int{-1, 0, 1}},
		{"two benches, one farther apart", round(2, 1, 5, 0, 0, 0, 2, 1, 0, 13, 20), []int{0, 1}},
		{"three benches, one farther apart", round(3, 1, 5, 0, 0, 0, 2, 1, 0, 13, 20), []int{0, 1}},
		{"two benches that cannot be off, as none may be", round(2, 1, 0, 0, 0, 3, 3, 1, 0, 3, 5), []int{-1, 0, 1}},
		{"one that has to be", round(2, 1, 0, 0, 0, 2, 2, 1, 0, 3, 5), []int{0, 1}},
		{"one bench alone explains two meters", round(3, 2, 0, 0, 0, 5, 5, 1, 0, 0, 0, 0, 1, 5, 5, 2, 1, 0, 0), []int{0}},
		{"but not two of its faults", round(3, 2, 0, 0, 0, 5, 5, 1, 0, 0, 0, 0, 1, 6, 6, 2, 1, 0, 0), nil},
		{"its fault is the same for each meter", round(2, 2, api.MaxFound, 0, 0, 5, 5, 1, 0, 0, 0, 0, 1, 6, 6, 1, 1, 0, 0), nil},
		{"each bench right, by the greatest Most", round(2, 1, api.MaxFound, 0, 0, -api.MaxFound, -api.MaxFound, 1, 0, api.MaxFound, api.MaxFound), []int{-1, 0, 1}},
		{"just not, by a lesser one", round(2, 1, api.MaxFound-1, 0, 0, -api.MaxFound, -api.MaxFound, 1, 0, api.MaxFound, api.MaxFound), []int{0, 1}},
		{"the last bench of most", round(6, 6, 1, 0, 5, 0, 0, 1, 5, 1, 1, 5, 5, 4, 4, 5, 0, 4, 4, 4, 0, 1, 1), []int{5}},
	} {
		for off := api.AllRight; off < s.r.Benches; off++ {
			checkFits(t, s.name, s.r, off, slices.Contains(s.fit, off), api.OK)
		}
	}
}

// P5.2: each error in its place, and each bench that can be convicted.
func TestConvict(t *testing.T) {
	checkConvict(t, "no trips", round(6, 6, 0), 0, api.ErrNone)
	checkConvict(t, "one bench, one meter", round(1, 1, 0, 0, 0, 7, 9), 0, api.ErrNone)
	checkConvict(t, "one bench against itself", round(1, 1, 0, 0, 0, 7, 9, 0, 0, 10, 11), 0, api.ErrRefuse)
	checkConvict(t, "one bench of several against itself", round(2, 1, 0, 1, 0, 7, 9, 1, 0, 10, 11), 0, api.ErrRefuse)
	checkConvict(t, "two benches that are off", round(4, 1, 1, 0, 0, 0, 0, 1, 0, 0, 0, 2, 0, 9, 9, 3, 0, -9, -9), 0, api.ErrRefuse)
	checkConvict(t, "one of two, whichever", round(2, 1, 1, 0, 0, 0, 0, 1, 0, 3, 3), 0, api.ErrDoubt)
	checkConvict(t, "one of the first two", round(3, 1, 1, 0, 0, 0, 0, 1, 0, 3, 3), 0, api.ErrDoubt)
	checkConvict(t, "one of the last two", round(3, 2, 1, 1, 1, 0, 0, 2, 1, 3, 3), 0, api.ErrDoubt)
	checkConvict(t, "the one in the middle differs from both by as much as they do", round(3, 1, 1, 0, 0, 0, 0, 1, 0, 2, 2, 2, 0, 4, 4), 0, api.ErrDoubt)
	for off := range 6 {
		r := round(6, 1, 1)
		for bench := range 6 {
			r.Trips = append(r.Trips, api.Trip{Bench: bench, Error: span(0, 2)})
		}
		checkConvict(t, "nobody", r, 0, api.ErrNone)
		r.Trips[off].Error = span(4, 4)
		checkConvict(t, "just not", r, 0, api.ErrNone)
		r.Trips[off].Error = span(5, 5)
		checkConvict(t, "just one", r, off, api.OK)
		r.Trips[(off+1)%6].Error = span(5, 5)
		checkConvict(t, "a second one", r, 0, api.ErrRefuse)
	}
}

// P5.3: faults with both ends, and without; what is asked of a suspicion that does not fit.
func TestFault(t *testing.T) {
	r := round(3, 2, 5, 0, 0, 10, 12, 1, 0, 10, 20, 0, 1, -3, -2)
	for off := api.AllRight; off < 3; off++ {
		for bench := range 3 {
			if bench != off {
				checkFault(t, "right", r, off, bench, span(-5, 5), api.OK)
			}
		}
	}
	checkFault(t, "off, held by one meter of two", r, 0, 0, span(-15, 7), api.OK)
	checkFault(t, "off, held by its meter", r, 1, 1, span(-7, 15), api.OK)
	checkFault(t, "off, without a trip", r, 2, 2, api.Span{}, api.ErrNone)
	r = round(2, 2, 5, 0, 0, 10, 12, 0, 1, 10, 20, 1, 1, 0, 0)
	checkFault(t, "narrower than Most", r, api.AllRight, 0, span(5, 5), api.OK)
	checkFault(t, "narrower than Most", r, api.AllRight, 1, span(-5, -5), api.OK)
	checkFault(t, "off", r, 0, 0, span(5, 25), api.OK)
	checkFault(t, "off, and no other bench has been to its meter", round(2, 2, 5, 0, 0, 10, 12, 1, 1, 0, 0), 0, 0, api.Span{}, api.ErrNone)
	checkFault(t, "the same, of the other one", round(2, 2, 5, 0, 0, 10, 12, 1, 1, 0, 0), 0, 1, span(-5, 5), api.OK)
	checkFault(t, "one bench", round(1, 1, 5, 0, 0, 10, 12), api.AllRight, 0, span(-5, 5), api.OK)
	checkFault(t, "one bench", round(1, 1, 5, 0, 0, 10, 12), 0, 0, api.Span{}, api.ErrNone)
	checkFault(t, "no trips, Most 0", round(6, 6, 0), api.AllRight, 5, span(0, 0), api.OK)
	checkFault(t, "no trips, the greatest Most", round(6, 6, api.MaxFound), 4, 5, span(-api.MaxFound, api.MaxFound), api.OK)
	checkFault(t, "no trips", round(6, 6, 0), 5, 5, api.Span{}, api.ErrNone)
	far := round(2, 1, api.MaxFound, 0, 0, -api.MaxFound, -api.MaxFound, 1, 0, api.MaxFound, api.MaxFound)
	checkFault(t, "as far off as can be", far, 1, 1, span(api.MaxFound, 3*api.MaxFound), api.OK)
	checkFault(t, "as far off as can be", far, 0, 0, span(-3*api.MaxFound, -api.MaxFound), api.OK)
	checkFault(t, "right", far, api.AllRight, 0, span(-api.MaxFound, -api.MaxFound), api.OK)
}

// P5.4: the same of meters.
func TestError(t *testing.T) {
	r := round(3, 3, 5, 0, 0, 10, 12, 1, 0, 10, 20, 0, 1, -3, -2)
	checkError(t, "of both benches", r, api.AllRight, 0, span(5, 17), api.OK)
	checkError(t, "of one bench", r, api.AllRight, 1, span(-8, 3), api.OK)
	checkError(t, "without a trip", r, api.AllRight, 2, api.Span{}, api.ErrNone)
	checkError(t, "the bench that is right holds it", r, 0, 0, span(5, 25), api.OK)
	checkError(t, "the other meter holds the bench that is off", r, 0, 1, span(-10, 13), api.OK)
	checkError(t, "the bench 1 is off", r, 1, 0, span(5, 17), api.OK)
	checkError(t, "it has no trip", r, 2, 2, api.Span{}, api.ErrNone)
	checkError(t, "of a bench that is off, and held by no other meter", round(2, 2, 5, 0, 0, 10, 12, 1, 1, 0, 0), 0, 0, api.Span{}, api.ErrNone)
	checkError(t, "of the other bench", round(2, 2, 5, 0, 0, 10, 12, 1, 1, 0, 0), 0, 1, span(-5, 5), api.OK)
	checkError(t, "one bench", round(1, 1, 5, 0, 0, 10, 12), api.AllRight, 0, span(5, 17), api.OK)
	checkError(t, "one bench that is off", round(1, 1, 5, 0, 0, 10, 12), 0, 0, api.Span{}, api.ErrNone)
	checkError(t, "Most 0", round(1, 1, 0, 0, 0, 10, 12), api.AllRight, 0, span(10, 12), api.OK)
	checkError(t, "the greatest Most", round(1, 1, api.MaxFound, 0, 0, api.MaxFound, api.MaxFound), api.AllRight, 0, span(0, 2*api.MaxFound), api.OK)
	checkError(t, "no trips", round(6, 6, 0), api.AllRight, 5, api.Span{}, api.ErrNone)
	far := round(2, 2, api.MaxFound, 0, 0, -api.MaxFound, -api.MaxFound, 1, 0, api.MaxFound, api.MaxFound, 1, 1, -api.MaxFound, -api.MaxFound)
	checkError(t, "as far off as can be", far, 1, 1, span(-4*api.MaxFound, -2*api.MaxFound), api.OK)
}

// P5.3 and P5.4: ErrRange before ErrState, ErrState before ErrNone.
func TestErrorsInOrder(t *testing.T) {
	r := round(3, 2, 1, 0, 0, 0, 0, 0, 0, 1, 1)
	for off := api.AllRight; off < 3; off++ {
		for bench := range 3 {
			checkFault(t, "a suspicion that does not fit", r, off, bench, api.Span{}, api.ErrState)
		}
		for meter := range 2 {
			checkError(t, "a suspicion that does not fit", r, off, meter, api.Span{}, api.ErrState)
		}
	}
	for _, r := range []api.Round{r, round(3, 2, 1)} {
		for off := api.AllRight; off < 3; off++ {
			for _, which := range []int{-1, 3, 6, math.MinInt, math.MaxInt} {
				checkFault(t, "no bench", r, off, which, api.Span{}, api.ErrRange)
				checkError(t, "no meter", r, off, which, api.Span{}, api.ErrRange)
			}
			checkError(t, "a bench, but no meter", r, off, 2, api.Span{}, api.ErrRange)
		}
	}
	checkFault(t, "a meter, but no bench", round(2, 3, 1), 0, 2, api.Span{}, api.ErrRange)
}

// chain returns a round in which each bench finds so much more than the one before it, by a meter that went to both.
// If it is closed, the first one finds so much more than the last one, too.
func chain(benches, meters, most, more int) api.Round {
	r := round(benches, meters, most)
	for meter := range meters {
		r.Trips = append(r.Trips,
			api.Trip{Bench: meter, Meter: meter},
			api.Trip{Bench: (meter + 1) % benches, Meter: meter, Error: span(more, more)})
	}
	return r
}

// indices returns the numbers from 0, so many.
func indices(n int) []int {
	var out []int
	for i := range n {
		out = append(out, i)
	}
	return out
}

// P5.5: from the fewest trips that can clash to the most.
func TestClashOfManyTrips(t *testing.T) {
	for benches := 2; benches <= api.MaxBenches; benches++ {
		open := chain(benches, benches-1, 5*(benches-1), 10)
		checkClash(t, "an open chain, just not", open, api.AllRight, nil, api.ErrNone)
		open.Most--
		checkClash(t, "an open chain", open, api.AllRight, indices(2*benches-2), api.OK)
		checkClash(t, "an open chain, the last bench off", open, benches-1, nil, api.ErrNone)
		closed := chain(benches, benches, api.MaxFound, 0)
		checkClash(t, "a closed chain, just not", closed, 0, nil, api.ErrNone)
		closed = chain(benches, benches, api.MaxFound, 1)
		for off := api.AllRight; off < benches; off++ {
			checkClash(t, "a closed chain", closed, off, indices(2*benches), api.OK)
		}
		rest := closed
		rest.Trips = append([]api.Trip{{Error: span(-9, 9)}, {Error: span(-9, 9)}}, closed.Trips...)
		var want []int
		for _, i := range indices(2 * benches) {
			want = append(want, i+2)
		}
		checkClash(t, "two trips before it that agree with all", rest, 0, want, api.OK)
	}
}

// P5.5: fewer trips come first, then the first ones in lexicographic order.
func TestFirstClash(t *testing.T) {
	for _, s := range []struct {
		name string
		r    api.Round
		off  int
		want []int
		e    api.Errno
	}{
		{"no trips", round(1, 1, 0), 0, nil, api.ErrNone},
		{"one trip", round(1, 1, 0, 0, 0, 5, 5), api.AllRight, nil, api.ErrNone},
		{"a trip twice", round(2, 1, 0, 0, 0, 5, 5, 0, 0, 5, 5, 1, 0, 6, 6, 1, 0, 6, 6), api.AllRight, []int{0, 2}, api.OK},
		{"all with all", round(2, 1, 0, 0, 0, 5, 5, 0, 0, 6, 6, 1, 0, 7, 7, 1, 0, 8, 8), api.AllRight, []int{0, 1}, api.OK},
		{"those of the bench that is right", round(3, 1, 0, 0, 0, 5, 5, 1, 0, 6, 6, 2, 0, 7, 7, 2, 0, 9, 9), 1, []int{0, 2}, api.OK},
		{"the first one, with a late one", round(3, 1, 1, 0, 0, 0, 0, 1, 0, 2, 2, 2, 0, -2, -2), api.AllRight, []int{1, 2}, api.OK},
		{"the first one, with the last one", round(2, 2, 1, 0, 0, 0, 0, 0, 1, 0, 0, 1, 1, 5, 5, 1, 0, 5, 5), api.AllRight, []int{0, 3}, api.OK},
		{"fewer, though later", round(4, 3, 3, 0, 0, 0, 0, 1, 0, 4, 4, 1, 1, 0, 0, 2, 1, 4, 4, 3, 2, 5, 5, 0, 2, -2, -2), api.AllRight, []int{4, 5}, api.OK},
		{"more, if there are no fewer", round(4, 3, 3, 0, 0, 0, 0, 1, 0, 4, 4, 1, 1, 0, 0, 2, 1, 4, 4, 3, 2, 5, 5, 0, 2, 2, 2), api.AllRight, []int{0, 1, 2, 3}, api.OK},
	} {
		checkClash(t, s.name, s.r, s.off, s.want, s.e)
	}
	most := round(6, 6, 0)
	for i := range api.MaxTrips {
		most.Trips = append(most.Trips, api.Trip{Bench: i % 6, Meter: i % 6})
	}
	checkClash(t, "as many trips as can be", most, 3, nil, api.ErrNone)
	most.Trips[13] = api.Trip{Bench: 0, Meter: 5, Error: span(1, 1)}
	checkClash(t, "the last one", most, 3, []int{5, 13}, api.OK)
	most.Trips[12] = api.Trip{Bench: 0, Meter: 0, Error: span(-1, -1)}
	checkClash(t, "the last two", most, 3, []int{0, 12}, api.OK)
}

// ErrArg comes first: rounds that are not valid.
func TestWrongRounds(t *testing.T) {
	wrong := map[string]func(r *api.Round){
		"no benches":           func(r *api.Round) { r.Benches = 0 },
		"benches below 0":      func(r *api.Round) { r.Benches = -1 },
		"too many benches":     func(r *api.Round) { r.Benches = api.MaxBenches + 1 },
		"no meters":            func(r *api.Round) { r.Meters = 0 },
		"meters below 0":       func(r *api.Round) { r.Meters = math.MinInt },
		"too many meters":      func(r *api.Round) { r.Meters = api.MaxMeters + 1 },
		"Most below 0":         func(r *api.Round) { r.Most = -1 },
		"too much Most":        func(r *api.Round) { r.Most = api.MaxFound + 1 },
		"too many trips":       func(r *api.Round) { r.Trips = make([]api.Trip, api.MaxTrips+1) },
		"a bench below 0":      func(r *api.Round) { r.Trips[0].Bench = -1 },
		"a bench there is not": func(r *api.Round) { r.Trips[5].Bench = 3 },
		"a meter below 0":      func(r *api.Round) { r.Trips[3].Meter = -1 },
		"a meter there is not": func(r *api.Round) { r.Trips[5].Meter = 2 },
		"no span":              func(r *api.Round) { r.Trips[1].Error = span(5, 4) },
		"too low":              func(r *api.Round) { r.Trips[2].Error.Lo = -api.MaxFound - 1 },
		"too high":             func(r *api.Round) { r.Trips[5].Error.Hi = api.MaxFound + 1 },
		"far too high":         func(r *api.Round) { r.Trips[5].Error = span(math.MinInt, math.MaxInt) },
	}
	for name, change := range wrong {
		r := exampleRound()
		change(&r)
		checkConvict(t, name, r, 0, api.ErrArg)
		for _, off := range []int{-2, -1, 0, 2, 3, math.MinInt, math.MaxInt} {
			checkFirst(t, name, r, off, api.ErrArg)
		}
	}
	for _, r := range []api.Round{{}, round(0, 1, 0), round(1, 0, 0), round(-1, 1, 0), round(1, -1, 0), round(7, 1, 0), round(1, 7, 0)} {
		checkConvict(t, "without trips", r, 0, api.ErrArg)
		checkFirst(t, "without trips", r, api.AllRight, api.ErrArg)
	}
	checkConvict(t, "all at its limit", round(api.MaxBenches, api.MaxMeters, api.MaxFound, 5, 5, -api.MaxFound, api.MaxFound), 0, api.ErrNone)
	checkConvict(t, "the least of all", round(1, 1, 0), 0, api.ErrNone)
}

// ErrRange comes second: suspicions that there are not.
func TestWrongSuspicions(t *testing.T) {
	for _, off := range []int{-2, 3, 6, math.MinInt, math.MaxInt} {
		checkFirst(t, "an example", exampleRound(), off, api.ErrRange)
		checkFirst(t, "no suspicion fits", round(3, 1, 0, 0, 0, 0, 0, 0, 0, 1, 1), off, api.ErrRange)
	}
	checkFirst(t, "one bench", round(1, 6, 0), 1, api.ErrRange)
	checkFits(t, "the last bench of most", round(6, 1, 0), 5, true, api.OK)
	checkFirst(t, "one more than most", round(6, 1, 0), 6, api.ErrRange)
}

// P5.6: arguments are only read, also behind their ends, and results are new.
func TestMemory(t *testing.T) {
	r := exampleRound()
	all := r.Trips
	r.Trips = all[:5]
	before := slices.Clone(all)
	for off := api.AllRight; off < 3; off++ {
		travel.Fits(r, off)
		travel.Fault(r, off, 0)
		travel.Error(r, off, 0)
		travel.Clash(r, off)
	}
	travel.Convict(r)
	if !slices.Equal(all, before) {
		t.Error("the trips have changed", all)
	}
	one, _ := travel.Clash(r, 0)
	two, _ := travel.Clash(r, 0)
	one[0], one[1] = 77, 78
	if !slices.Equal(two, []int{1, 2}) {
		t.Error("two results share memory", two)
	}
	checkClash(t, "after a result was changed", r, 0, []int{1, 2}, api.OK)
	checkConvict(t, "an empty list", api.Round{Benches: 1, Meters: 1, Trips: []api.Trip{}}, 0, api.ErrNone)
}

// P1 and R2: whatever the arguments are, each function ends, and with an error all other results are zero values.
func TestAnyArguments(t *testing.T) {
	r := rand.New(rand.NewSource(15))
	wild := []int{math.MinInt, math.MinInt + 1, -api.MaxFound - 1, -api.MaxFound, -2, -1, 0, 1, 2, 3, 5, 6, 7, api.MaxFound, api.MaxFound + 1, math.MaxInt - 1, math.MaxInt}
	anyInt := func() int { return pick(r, wild[r.Intn(len(wild))], r.Intn(6), r.Intn(6), r.Intn(6)) }
	valid := 0
	for range 40_000 {
		x := api.Round{Benches: anyInt(), Meters: anyInt(), Most: anyInt()}
		for range pick(r, 0, 1, 2, r.Intn(5), r.Intn(20)) {
			lo := anyInt()
			x.Trips = append(x.Trips, api.Trip{Bench: anyInt(), Meter: anyInt(), Error: span(lo, pick(r, lo, lo, anyInt()))})
		}
		off, which := anyInt()-pick(r, 0, 1), anyInt()
		fits, e1 := travel.Fits(x, off)
		bench, e2 := travel.Convict(x)
		fault, e3 := travel.Fault(x, off, which)
		wrong, e4 := travel.Error(x, off, which)
		clash, e5 := travel.Clash(x, off)
		if e1 != api.OK && fits || e2 != api.OK && bench != 0 || e3 != api.OK && fault != (api.Span{}) || e4 != api.OK && wrong != (api.Span{}) || e5 != api.OK && len(clash) > 0 {
			t.Fatal(x, off, which, fits, e1, bench, e2, fault, e3, wrong, e4, clash, e5)
		}
		if e1 == api.OK {
			valid++
		}
	}
	if valid < 1000 {
		t.Error("too few rounds are valid", valid)
	}
}
