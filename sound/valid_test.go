package sound_test

import (
	"math"
	"math/rand"
	"slices"
	"testing"

	"meterworks/api"
	"meterworks/sound"
)

// wild are numbers that are no places of short lines.
var wild = []int{math.MinInt, math.MinInt + 1, -1 << 41, -2, -1, 151, 152, 1 << 20, 1 << 41, math.MaxInt - 1, math.MaxInt}

// checkArg checks that each function returns ErrArg, whatever else it is given.
func checkArg(t *testing.T, name string, l []api.Pipe) {
	t.Helper()
	t.Run(name, func(t *testing.T) {
		t.Helper()
		for _, n := range append([]int{0, 1, 100}, wild...) {
			checkLag(t, l, 0, 1, n, api.Span{}, api.ErrArg)
			checkLag(t, l, n, 1, 0, api.Span{}, api.ErrArg)
			checkLag(t, l, 0, n, 0, api.Span{}, api.ErrArg)
			checkTune(t, l, n, hearing(0, 1, 0, 100), nil, api.ErrArg)
		}
		for _, h := range append(badHearings(), hearing(0, 1, 0, 0), hearing(0, 1, 2000, 2100)) {
			checkTune(t, l, 0, h, nil, api.ErrArg)
			checkTune(t, l, -1, h, nil, api.ErrArg)
			for _, n := range []int{0, 1, api.MaxHearings, api.MaxHearings + 1, 100} {
				checkWhere(t, l, slices.Repeat([]api.Hearing{h}, n), nil, api.ErrArg)
			}
		}
		checkWhere(t, l, nil, nil, api.ErrArg)
	})
}

// badPipes are pipes that are not valid.
func badPipes() map[string]api.Pipe {
	return map[string]api.Pipe{
		"all is zero":            {},
		"no length":              pipe(0, 8, 10),
		"a length below 0":       pipe(-1, 8, 10),
		"a length far below 0":   pipe(math.MinInt, 8, 10),
		"too long":               pipe(api.MaxLength+1, 8, 10),
		"far too long":           pipe(math.MaxInt, 8, 10),
		"a Slow of 0":            pipe(100, 0, 0),
		"a Slow from 0":          pipe(100, 0, 10),
		"a Slow from below 0":    pipe(100, -1, 10),
		"a Slow below 0":         pipe(100, -10, -8),
		"a Slow far below 0":     pipe(100, math.MinInt, 10),
		"a Slow too great":       pipe(100, 8, api.MaxSlow+1),
		"a Slow all too great":   pipe(100, api.MaxSlow+1, api.MaxSlow+1),
		"a Slow far too great":   pipe(100, 8, math.MaxInt),
		"a Slow wrong way round": pipe(100, 9, 8),
		"a Slow round by all":    pipe(100, api.MaxSlow, 1),
		"a Slow beyond all":      pipe(100, math.MinInt, math.MaxInt),
	}
}

// badHearings are hearings of the line of the chapter that are not valid.
func badHearings() []api.Hearing {
	out := []api.Hearing{hearing(1, 0, 0, 100), hearing(150, 0, 0, 100), hearing(150, 149, 0, 100), hearing(-1, 151, 0, 100), hearing(151, 151, 0, 100), hearing(-1, -1, 0, 100)}
	for _, n := range wild {
		out = append(out, hearing(n, 150, 0, 100), hearing(0, n, 0, 100))
	}
	const most = api.MaxLag
	for _, lag := range []api.Span{
		span(1, 0), span(100, -100), span(most, -most), span(-most-1, 0), span(0, most+1), span(-most-1, most+1), just(most + 1), just(-most - 1),
		span(math.MinInt, 0), span(0, math.MaxInt), span(math.MinInt, math.MaxInt), span(math.MaxInt, math.MinInt), just(math.MaxInt), just(math.MinInt),
	} {
		out = append(out, api.Hearing{From: 0, To: 150, Lag: lag})
	}
	return out
}

// ErrArg comes first: lines that are not valid.
func TestNotValid(t *testing.T) {
	checkArg(t, "no pipes", nil)
	checkArg(t, "an empty list", []api.Pipe{})
	checkArg(t, "too many pipes", slices.Repeat(example()[:1], api.MaxPipes+1))
	checkArg(t, "far too many pipes", slices.Repeat(example()[:1], 100))
	for name, bad := range badPipes() {
		checkArg(t, name, []api.Pipe{bad})
		for i := range 3 {
			l := three()
			l[i] = bad
			checkArg(t, []string{"the first one, ", "the second one, ", "the last one, "}[i]+name, l)
		}
	}
}

// ErrLong comes second: too many hearings, whether they are valid or not, and whether they allow a place or not.
func TestTooManyHearings(t *testing.T) {
	for _, n := range []int{api.MaxHearings + 1, api.MaxHearings + 2, 100} {
		for _, h := range append(badHearings(), hearing(0, 150, 0, 100), hearing(0, 150, 2000, 2100)) {
			checkWhere(t, example(), slices.Repeat([]api.Hearing{h}, n), nil, api.ErrLong)
		}
	}
	good := hearing(0, 150, 0, 100)
	checkWhere(t, example(), slices.Repeat([]api.Hearing{good}, api.MaxHearings), []api.Stretch{stretch(0, 63, 71)}, api.OK)
}

// ErrRange comes then: hearings that are not valid, in whatever place, before ErrNone and ErrState.
func TestWrongHearings(t *testing.T) {
	good, never := hearing(0, 150, 0, 100), hearing(0, 150, 2000, 2100)
	for _, h := range badHearings() {
		for _, l := range [][]api.Hearing{{h}, {good, h}, {h, good}, {never, h}, {h, never}, {good, h, good}, slices.Repeat([]api.Hearing{h}, api.MaxHearings)} {
			checkWhere(t, example(), l, nil, api.ErrRange)
		}
		for _, at := range []int{0, 63, 100, 150, -1, 151} {
			checkTune(t, example(), at, h, nil, api.ErrRange)
		}
	}
}

// ErrRange for places that are none, and for a from that is more than to.
func TestWrongPlaces(t *testing.T) {
	l := example()
	for _, n := range wild {
		checkLag(t, l, 0, 150, n, api.Span{}, api.ErrRange)
		checkLag(t, l, n, 150, 0, api.Span{}, api.ErrRange)
		checkLag(t, l, 0, n, 0, api.Span{}, api.ErrRange)
		checkLag(t, l, n, n, n, api.Span{}, api.ErrRange)
		checkTune(t, l, n, hearing(0, 150, 600, 650), nil, api.ErrRange)
		checkTune(t, l, n, hearing(0, 150, 2000, 2100), nil, api.ErrRange)
	}
	checkLag(t, l, 1, 0, 0, api.Span{}, api.ErrRange)
	checkLag(t, l, 150, 0, 100, api.Span{}, api.ErrRange)
	checkLag(t, l, 150, 149, 150, api.Span{}, api.ErrRange)
	checkLag(t, l, 0, 0, 150, just(0), api.OK)
	checkLag(t, l, 150, 150, 0, just(0), api.OK)
	checkLag(t, l, 149, 150, 150, just(5), api.OK)
	checkLag(t, []api.Pipe{pipe(1, 2, 3)}, 0, 2, 0, api.Span{}, api.ErrRange)
	checkLag(t, []api.Pipe{pipe(1, 2, 3)}, 0, 1, 2, api.Span{}, api.ErrRange)
	checkTune(t, l, 150, hearing(0, 150, 1050, 1050), []api.Span{just(8), just(5)}, api.OK)
}

// All limits are reached, and none is passed.
func TestLimits(t *testing.T) {
	const all = api.MaxPipes * api.MaxLength
	l := slices.Repeat([]api.Pipe{pipe(api.MaxLength, 1, api.MaxSlow)}, api.MaxPipes)
	checkLag(t, l, 0, all, 0, span(-all*api.MaxSlow, -all), api.OK)
	checkLag(t, l, 0, all, all, span(all, all*api.MaxSlow), api.OK)
	checkLag(t, l, 0, all, all/2, span(all/2-all/2*api.MaxSlow, all/2*api.MaxSlow-all/2), api.OK)
	checkLag(t, l, all, all, 0, just(0), api.OK)
	var whole []api.Stretch
	var slow []api.Span
	for i := range l {
		whole = append(whole, stretch(i, 0, api.MaxLength))
		slow = append(slow, span(1, api.MaxSlow))
	}
	widest := hearing(0, all, -api.MaxLag, api.MaxLag)
	checkWhere(t, l, slices.Repeat([]api.Hearing{widest}, api.MaxHearings), whole, api.OK)
	checkWhere(t, l, []api.Hearing{hearing(0, all, all*api.MaxSlow, api.MaxLag)}, []api.Stretch{stretch(7, api.MaxLength, api.MaxLength)}, api.OK)
	checkWhere(t, l, []api.Hearing{hearing(0, all, all*api.MaxSlow+1, api.MaxLag)}, nil, api.ErrNone)
	checkWhere(t, l, []api.Hearing{hearing(0, all, -api.MaxLag, -all*api.MaxSlow)}, []api.Stretch{stretch(0, 0, 0)}, api.OK)
	checkWhere(t, l, []api.Hearing{hearing(0, all, -api.MaxLag, -all*api.MaxSlow-1)}, nil, api.ErrNone)
	checkWhere(t, l, []api.Hearing{hearing(0, all, -api.MaxLag, -api.MaxLag)}, nil, api.ErrNone)
	checkWhere(t, l, []api.Hearing{hearing(0, all, api.MaxLag, api.MaxLag)}, nil, api.ErrNone)
	checkTune(t, l, all, widest, slow, api.OK)
	checkTune(t, l, all, hearing(0, all, api.MaxLag, api.MaxLag), nil, api.ErrState)
	checkTune(t, l, 0, hearing(0, all, -api.MaxLag, -api.MaxLag), nil, api.ErrState)
	checkTune(t, l, all, hearing(0, all, all*api.MaxSlow, api.MaxLag), slices.Repeat([]api.Span{just(api.MaxSlow)}, api.MaxPipes), api.OK)
	checkTune(t, l, 0, hearing(0, all, -all, api.MaxLag), slices.Repeat([]api.Span{just(1)}, api.MaxPipes), api.OK)
}

// R3: a nil list and an empty one are the same.
func TestEmptyLists(t *testing.T) {
	for _, h := range [][]api.Hearing{nil, {}} {
		checkWhere(t, example(), h, []api.Stretch{stretch(0, 0, 100), stretch(1, 0, 50)}, api.OK)
		checkWhere(t, nil, h, nil, api.ErrArg)
		checkWhere(t, []api.Pipe{}, h, nil, api.ErrArg)
	}
}

// R4: no argument is changed, also beyond the end of a list, results are new, and what was asked before makes no difference.
func TestArguments(t *testing.T) {
	l := append(example(), pipe(7, 8, 9))[:2]
	hearings := []api.Hearing{hearing(0, 150, 700, 800), hearing(0, 150, 0, 100)}
	for range 2 {
		TestExamples(t)
		s, _ := sound.Where(l, hearings[:1])
		other, _ := sound.Where(l, hearings[:1])
		all, _ := sound.Where(l, nil)
		for _, list := range [][]api.Stretch{s, other, all} {
			for i := range list {
				list[i] = stretch(-1, -1, -1)
			}
		}
		checkWhere(t, l, hearings[:1], []api.Stretch{stretch(0, 98, 100), stretch(1, 0, 25)}, api.OK)
		slow, _ := sound.Tune(l, 100, hearing(0, 150, 600, 650))
		slow[0], slow[1] = just(-1), just(-1)
		checkTune(t, l, 100, hearing(0, 150, 600, 650), []api.Span{span(8, 9), span(5, 5)}, api.OK)
		checkLag(t, l, 0, 150, 100, span(550, 750), api.OK)
	}
	if !slices.Equal(l[:3], append(example(), pipe(7, 8, 9))) || !slices.Equal(hearings, []api.Hearing{hearing(0, 150, 700, 800), hearing(0, 150, 0, 100)}) {
		t.Error("an argument was changed", l[:3], hearings)
	}
}

// P1 and R2: whatever the arguments are, each function ends, and with an error all other results are zero values.
func TestAnyArguments(t *testing.T) {
	r := rand.New(rand.NewSource(14))
	anyInt := func(most int) int {
		if r.Intn(60) == 0 {
			return pick(r, wild...)
		}
		return r.Intn(most)
	}
	anySpan := func(most int) api.Span {
		lo := anyInt(most)
		return span(lo, pick(r, lo, max(lo, anyInt(most)), anyInt(most)))
	}
	seen := counters{}
	for range 30_000 {
		var l []api.Pipe
		for range r.Intn(pick(r, 4, api.MaxPipes+2)) {
			l = append(l, api.Pipe{Length: 1 + anyInt(30), Slow: anySpan(8)})
		}
		most := 40
		if len(l) > 0 && r.Intn(4) > 0 {
			for i := range l {
				l[i].Slow.Lo++
				l[i].Slow.Hi++
			}
		}
		var hearings []api.Hearing
		for range r.Intn(pick(r, 2, 4, api.MaxHearings+2)) {
			h := api.Hearing{From: anyInt(most / 2), To: most/2 + anyInt(most/2), Lag: anySpan(200)}
			h.Lag.Lo -= 100
			hearings = append(hearings, h)
		}
		at := anyInt(most)
		lags, e := sound.Lag(l, anyInt(most/2), most/2+anyInt(most/2), at)
		checkZero(t, "Lag", e, lags == api.Span{}, seen)
		s, e := sound.Where(l, hearings)
		checkZero(t, "Where", e, len(s) == 0, seen)
		if e == api.OK && len(s) == 0 {
			t.Fatal("Where", l, hearings, "has no stretches")
		}
		if len(hearings) > 0 {
			slow, e := sound.Tune(l, at, hearings[0])
			checkZero(t, "Tune", e, len(slow) == 0, seen)
		}
	}
	for _, name := range []string{"Lag", "Where", "Tune"} {
		seen.check(t, 1000, name)
		seen.check(t, 1000, name+" with an error")
	}
}

func checkZero(t *testing.T, name string, e api.Errno, isZero bool, seen counters) {
	t.Helper()
	seen.see(name, e == api.OK)
	seen.see(name+" with an error", e != api.OK)
	if e != api.OK && !isZero {
		t.Fatal(name, "has the error", e, "and a result")
	}
}
