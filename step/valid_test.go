package step_test

import (
	"math"
	"math/rand"
	"slices"
	"testing"

	"meterworks/api"
	"meterworks/step"
)

// checkAll checks that each function returns the same error, with whatever street and valves.
func checkAll(t *testing.T, name string, s api.Steps, e api.Errno) {
	t.Helper()
	t.Run(name, func(t *testing.T) {
		t.Helper()
		checkSuspects(t, s, 0, 0, e)
		checkSound(t, s, false, e)
		for _, street := range []int{0, -1, 10, math.MinInt, math.MaxInt} {
			checkLeak(t, s, street, api.Span{}, e)
		}
		for _, valves := range [][]int{{1, 2}, nil, {-1}, make([]int, api.MaxValves+1)} {
			checkNext(t, s, valves, 0, 0, e)
		}
	})
}

// badLitres are spans that are not valid within 0 to MaxLitres.
func badLitres() map[string]api.Span {
	return map[string]api.Span{
		"below 0":          span(-1, 5),
		"all below 0":      span(-2, -1),
		"far below 0":      span(math.MinInt, 5),
		"too great":        span(5, api.MaxLitres+1),
		"all too great":    just(api.MaxLitres + 1),
		"far too great":    span(5, math.MaxInt),
		"wrong way round":  span(6, 5),
		"round by all":     span(api.MaxLitres, 0),
		"both ends beyond": span(-1, api.MaxLitres+1),
		"beyond all":       span(math.MinInt, math.MaxInt),
	}
}

// badTests change a test to one that is not valid.
func badTests() map[string]func(t *api.Steps) {
	bad := map[string]func(t *api.Steps){
		"no streets":                 func(t *api.Steps) { t.Uses, t.Steps = nil, nil },
		"no streets, an empty list":  func(t *api.Steps) { t.Uses, t.Steps = []api.Span{}, nil },
		"too many streets":           func(t *api.Steps) { t.Uses = make([]api.Span, api.MaxStreets+1) },
		"far too many streets":       func(t *api.Steps) { t.Uses = make([]api.Span, 100) },
		"Leaks below 0":              func(t *api.Steps) { t.Leaks = -1 },
		"Leaks far below 0":          func(t *api.Steps) { t.Leaks = math.MinInt },
		"too many Leaks":             func(t *api.Steps) { t.Leaks = api.MaxLeaks + 1 },
		"far too many Leaks":         func(t *api.Steps) { t.Leaks = math.MaxInt },
		"no Least":                   func(t *api.Steps) { t.Least = 0 },
		"no Least, without Leaks":    func(t *api.Steps) { t.Least, t.Leaks = 0, 0 },
		"Least below 0":              func(t *api.Steps) { t.Least = -1 },
		"Least far below 0":          func(t *api.Steps) { t.Least = math.MinInt },
		"Least too great":            func(t *api.Steps) { t.Least = api.MaxLitres + 1 },
		"Least far too great":        func(t *api.Steps) { t.Least = math.MaxInt },
		"too many steps":             func(t *api.Steps) { t.Steps = slices.Repeat(t.Steps[:1], api.MaxSteps+1) },
		"far too many steps":         func(t *api.Steps) { t.Steps = make([]api.Step, 100) },
		"Shut below 0":               func(t *api.Steps) { t.Steps[0].Shut = -1 },
		"Shut far below 0":           func(t *api.Steps) { t.Steps[1].Shut = math.MinInt },
		"the last Shut below 0":      func(t *api.Steps) { t.Steps[2].Shut = -1 },
		"a street that is not one":   func(t *api.Steps) { t.Steps[0].Shut = streets(3) },
		"one more than all":          func(t *api.Steps) { t.Steps[2].Shut = streets(0, 1, 2, 3) },
		"a street far beyond":        func(t *api.Steps) { t.Steps[1].Shut = streets(62) },
		"all streets of all":         func(t *api.Steps) { t.Steps[1].Shut = math.MaxInt },
		"a street that was left out": func(t *api.Steps) { t.Uses = t.Uses[:2]; t.Steps[2].Shut = streets(2) },
	}
	for name, s := range badLitres() {
		for i := range 3 {
			which := []string{"the first ", "the second ", "the last "}[i]
			bad[which+"Use "+name] = func(t *api.Steps) { t.Uses[i] = s }
			bad[which+"Flow "+name] = func(t *api.Steps) { t.Steps[i].Flow = s }
		}
	}
	return bad
}

// ErrArg comes first: tests that are not valid, whether a truth would fit or not, with whatever street and valves.
func TestNotValid(t *testing.T) {
	for name, change := range badTests() {
		checkAll(t, name, changed(change), api.ErrArg)
		checkAll(t, name+", and no truth", changed(func(s *api.Steps) {
			s.Steps[1].Flow = span(16, 19)
			change(s)
		}), api.ErrArg)
	}
	checkAll(t, "all is zero", api.Steps{}, api.ErrArg)
}

// ErrRange for a street that is none, whether a truth fits or not.
func TestNoStreet(t *testing.T) {
	for _, street := range []int{-1, -2, 3, 4, 10, 64, math.MinInt, math.MaxInt} {
		checkLeak(t, example(), street, api.Span{}, api.ErrRange)
		checkLeak(t, firstStep(16, 19), street, api.Span{}, api.ErrRange)
		checkLeak(t, firstStep(0, 10), street, api.Span{}, api.ErrRange)
	}
	checkLeak(t, unused(1, 1, 5), 1, api.Span{}, api.ErrRange)
	checkLeak(t, unused(10, 1, 5), 10, api.Span{}, api.ErrRange)
	checkLeak(t, unused(10, 1, 5), 9, span(5, api.MaxLitres), api.OK)
}

// ErrLong for too many valves comes before all else, then ErrRange for one that is not a set, then ErrState.
func TestWrongValves(t *testing.T) {
	for _, s := range []api.Steps{example(), firstStep(40, 45), firstStep(0, 10), firstStep(16, 19)} {
		for _, n := range []int{api.MaxValves + 1, 100} {
			for _, v := range []int{0, 1, 7, 8, -1} {
				checkNext(t, s, slices.Repeat([]int{v}, n), 0, 0, api.ErrLong)
			}
		}
		for _, v := range []int{-1, 8, 9, 15, 1 << 10, 1 << 40, math.MinInt, math.MaxInt} {
			for _, valves := range [][]int{{v}, {1, v}, {v, 1}, {1, 2, v, 4}, slices.Repeat([]int{v}, api.MaxValves)} {
				checkNext(t, s, valves, 0, 0, api.ErrRange)
			}
		}
	}
	checkNext(t, firstStep(16, 19), []int{7}, 0, 0, api.ErrState)
	checkNext(t, firstStep(40, 45), []int{7, 0, 4}, 2, 2, api.OK)
	checkNext(t, unused(2, 1, 5), []int{3, 4}, 0, 0, api.ErrRange)
	checkNext(t, unused(10, 1, 5), []int{1 << 9, 1<<10 - 1}, 0, 9, api.OK)
	checkNext(t, unused(10, 1, 5), []int{1 << 9, 1 << 10}, 0, 0, api.ErrRange)
}

// All limits are reached, and none is passed.
func TestLimits(t *testing.T) {
	const most = api.MaxLitres
	all, anything := slices.Repeat([]api.Span{just(most)}, api.MaxStreets), slices.Repeat([]api.Span{span(0, most)}, api.MaxStreets)
	ten := map[int]api.Span{}
	for street := range api.MaxStreets {
		ten[street] = span(1, most)
	}
	widest := slices.Repeat([]api.Step{flow(0, 0, most)}, api.MaxSteps)
	checkStreets(t, api.Steps{Uses: anything, Leaks: 2, Least: 1, Steps: widest}, ten, 0)
	checkSound(t, api.Steps{Uses: anything, Leaks: 2, Least: 1, Steps: widest}, true, api.OK)
	checkNothing(t, api.Steps{Uses: all, Leaks: 2, Least: 1, Steps: widest})
	shut := slices.Repeat([]api.Step{flow(1<<10-1, 0, most)}, api.MaxSteps)
	checkStreets(t, api.Steps{Uses: all, Leaks: 2, Least: 1, Steps: shut}, ten, 0)
	checkStreets(t, api.Steps{Uses: anything, Leaks: 1, Least: most, Steps: []api.Step{flow(streets(1, 2, 3, 4, 5, 6, 7, 8, 9), 0, most), flow(0, most, most)}},
		map[int]api.Span{0: just(most), 1: just(most), 2: just(most), 3: just(most), 4: just(most), 5: just(most), 6: just(most), 7: just(most), 8: just(most), 9: just(most)}, 0)
	one := unused(2, 2, most, flow(streets(0), most, most), flow(streets(1), most, most))
	checkStreets(t, one, map[int]api.Span{0: just(most), 1: just(most)}, 3)
	one.Steps = append(one.Steps, flow(0, most, most))
	checkNothing(t, one)
}

// R3: a nil list and an empty one are the same.
func TestEmptyLists(t *testing.T) {
	for _, steps := range [][]api.Step{nil, {}} {
		s := unused(2, 1, 5, steps...)
		s.Steps = steps
		checkStreets(t, s, map[int]api.Span{0: span(5, api.MaxLitres), 1: span(5, api.MaxLitres)}, 0)
		checkSound(t, s, true, api.OK)
		checkNext(t, s, nil, 0, 0, api.ErrNone)
		checkNext(t, s, []int{}, 0, 0, api.ErrNone)
		checkNext(t, s, []int{1}, 0, 1, api.OK)
	}
}

// R4 and P10.5: no argument is changed, also beyond the end of a list, and what was asked before makes no difference.
func TestArguments(t *testing.T) {
	s, valves := withLeaks(2, 1), []int{1, 3, 4, 7}
	s.Uses = append(s.Uses, span(7, 8))[:3]
	s.Steps = append(s.Steps, flow(1, 2, 3))[:3]
	for range 2 {
		TestExamples(t)
		checkStreets(t, s, map[int]api.Span{0: span(1, 17), 1: span(22, 44), 2: span(1, 6)}, streets(1))
		checkNext(t, s, valves[:3], 0, 2, api.OK)
		checkSound(t, s, false, api.OK)
	}
	was := withLeaks(2, 1)
	if !slices.Equal(s.Uses[:4], append(was.Uses, span(7, 8))) || !slices.Equal(s.Steps[:4], append(was.Steps, flow(1, 2, 3))) ||
		!slices.Equal(valves, []int{1, 3, 4, 7}) {
		t.Error("an argument was changed", s, valves)
	}
}

// P1 and R2: whatever the arguments are, each function ends, and with an error all other results are zero values.
func TestAnyArguments(t *testing.T) {
	r := rand.New(rand.NewSource(1))
	wild := []int{math.MinInt, -1, 0, 1, 2, 3, 7, 10, 12, 16, 1023, 1024, api.MaxLitres, api.MaxLitres + 1, math.MaxInt}
	anyInt := func(most int) int {
		if r.Intn(100) == 0 {
			return pick(r, wild...)
		}
		return r.Intn(most)
	}
	anySpan := func(most int) api.Span {
		lo := anyInt(most)
		return span(lo, pick(r, lo, anyInt(most)+min(lo, most)))
	}
	seen := map[string]int{}
	for range 20_000 {
		s := api.Steps{Leaks: anyInt(3), Least: 1 + anyInt(pick(r, 1, 9, 30))}
		count := r.Intn(pick(r, 4, api.MaxStreets+1)) + 1
		for range count {
			s.Uses = append(s.Uses, anySpan(pick(r, 1, 5)))
		}
		for range r.Intn(pick(r, 2, 4, api.MaxSteps+2)) {
			s.Steps = append(s.Steps, api.Step{Shut: anyInt(1 << count), Flow: anySpan(60)})
		}
		valves := anyValves(r, count)
		if len(valves) > 0 && r.Intn(8) == 0 {
			valves[r.Intn(len(valves))] = pick(r, wild...)
		}
		can, surely, e1 := step.Suspects(s)
		leak, e2 := step.Leak(s, anyInt(count))
		sound, e3 := step.Sound(s)
		valve, left, e4 := step.Next(s, valves)
		for name, is := range map[string]struct {
			e    api.Errno
			zero bool
		}{
			"Suspects": {e1, can == 0 && surely == 0},
			"Leak":     {e2, leak == api.Span{}},
			"Sound":    {e3, !sound},
			"Next":     {e4, valve == 0 && left == 0},
		} {
			if is.e == api.OK {
				seen[name]++
			} else if !is.zero {
				t.Fatal(name, s, valves, "has the error", is.e, "and a result")
			}
		}
	}
	for _, name := range []string{"Suspects", "Leak", "Sound", "Next"} {
		if seen[name] < 1000 {
			t.Error("too few arguments are valid", name, seen)
		}
	}
}
