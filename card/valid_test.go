package card_test

import (
	"math"
	"math/rand"
	"slices"
	"testing"

	"meterworks/api"
	"meterworks/card"
)

// wild are numbers that are no days.
var wild = []int{math.MinInt, math.MinInt + 1, -1 << 41, -2, -1, api.MaxDay + 1, api.MaxDay + 2, 1 << 41, math.MaxInt - 1, math.MaxInt}

// checkArg checks that each function returns ErrArg, whatever else it is given.
func checkArg(t *testing.T, name string, w api.Walk) {
	t.Helper()
	t.Run(name, func(t *testing.T) {
		t.Helper()
		checkMisfit(t, w, 0, 0, api.ErrArg)
		checkExplain(t, w, nil, api.ErrArg)
		checkMend(t, w, nil, api.ErrArg)
		for _, n := range append([]int{0, 1, 15}, wild...) {
			checkShows(t, w, 0, n, api.Span{}, api.ErrArg)
			checkShows(t, w, n, 15, api.Span{}, api.ErrArg)
		}
	})
}

// badRates are Rates that are not valid.
func badRates() map[string]api.Span {
	const most = api.MaxRate
	return map[string]api.Span{
		"from below 0":       span(-1, 3),
		"below 0":            span(-3, -1),
		"from far below 0":   span(math.MinInt, 3),
		"too great":          span(1, most+1),
		"all too great":      just(most + 1),
		"far too great":      span(1, math.MaxInt),
		"the wrong way":      span(2, 1),
		"the wrong way, all": span(most, 0),
		"from all to all":    span(math.MinInt, math.MaxInt),
		"all to all":         span(math.MaxInt, math.MinInt),
	}
}

// badReadings are readings that are not valid in a walk of two houses.
func badReadings() map[string]api.Reading {
	return map[string]api.Reading{
		"of no house":              read(2, 10, 100),
		"of a house below 0":       read(-1, 10, 100),
		"of a house far below 0":   read(math.MinInt, 10, 100),
		"of a house far beyond":    read(math.MaxInt, 10, 100),
		"of a house of other ones": read(api.MaxDoors-1, 10, 100),
		"before day 0":             read(0, -1, 100),
		"far before day 0":         read(0, math.MinInt, 100),
		"after the last day":       read(0, api.MaxDay+1, 100),
		"far after the last day":   read(0, math.MaxInt, 100),
		"below 0":                  read(0, 10, -1),
		"far below 0":              read(0, 10, math.MinInt),
		"too great":                read(0, 10, api.MaxLitres+1),
		"far too great":            read(0, 10, math.MaxInt),
	}
}

// ErrArg comes first: walks that are not valid, whether their readings fit or not.
func TestNotValid(t *testing.T) {
	checkArg(t, "no houses", api.Walk{})
	checkArg(t, "no houses, and readings", walk(nil, example().Readings...))
	checkArg(t, "an empty list of houses", walk([]api.Span{}))
	checkArg(t, "too many houses", walk(slices.Repeat([]api.Span{span(1, 3)}, api.MaxDoors+1)))
	checkArg(t, "far too many houses", walk(slices.Repeat([]api.Span{span(1, 3)}, 100), example().Readings...))
	checkArg(t, "too many readings", walk(rates(), slices.Repeat([]api.Reading{read(0, 10, 100)}, api.MaxReadings+1)...))
	checkArg(t, "far too many readings", walk(rates(), slices.Repeat(example().Readings, 100)...))
	for name, bad := range badRates() {
		checkArg(t, "only a Rate "+name, walk([]api.Span{bad}))
		for _, w := range []api.Walk{example(), mended()} {
			for house := range w.Rates {
				other := clone(w)
				other.Rates[house] = bad
				checkArg(t, "a Rate "+name, other)
			}
			w.Rates = append(w.Rates, bad)
			checkArg(t, "a Rate more "+name, w)
		}
	}
	for name, bad := range badReadings() {
		checkArg(t, "only a reading "+name, walk(rates(), bad))
		for _, w := range []api.Walk{example(), mended()} {
			for i := range w.Readings {
				other := clone(w)
				other.Readings[i] = bad
				checkArg(t, "a reading "+name, other)
			}
			w.Readings = append(w.Readings, bad)
			checkArg(t, "a reading more "+name, w)
		}
	}
}

// ErrRange comes second: houses and days that are none, before ErrNone and ErrState.
func TestRange(t *testing.T) {
	unread := walk(rates(), read(0, 10, 100))
	for _, w := range []api.Walk{example(), mended(), unread, walk(rates())} {
		for _, n := range append([]int{2, api.MaxDoors}, wild...) {
			checkShows(t, w, n, 15, api.Span{}, api.ErrRange)
			checkShows(t, w, n, -1, api.Span{}, api.ErrRange)
		}
		for _, n := range wild {
			checkShows(t, w, 0, n, api.Span{}, api.ErrRange)
			checkShows(t, w, 1, n, api.Span{}, api.ErrRange)
		}
	}
	for _, day := range []int{0, 10, 15, api.MaxDay} {
		checkShows(t, unread, 1, day, api.Span{}, api.ErrNone)
		checkShows(t, walk(rates()), 0, day, api.Span{}, api.ErrNone)
		checkShows(t, example(), 0, day, api.Span{}, api.ErrState)
		checkShows(t, example(), 1, day, api.Span{}, api.ErrState)
	}
	checkShows(t, unread, 0, 0, span(70, 90), api.OK)
	checkShows(t, unread, 0, api.MaxDay, span(100+api.MaxDay-10, 100+3*(api.MaxDay-10)), api.OK)
	// Of a house without readings ErrNone comes, though another one does not fit.
	w := example()
	w.Rates = append(w.Rates, span(0, 1))
	checkShows(t, w, 2, 15, api.Span{}, api.ErrNone)
}

// All limits are reached, and none is passed.
func TestLimits(t *testing.T) {
	const days, most = api.MaxDay, api.MaxRate
	w := walk([]api.Span{span(0, most)}, read(0, 0, 0), read(0, days, api.MaxLitres))
	checkMisfit(t, w, 0, 0, api.ErrNone)
	checkShows(t, w, 0, days, just(api.MaxLitres), api.OK)
	checkShows(t, w, 0, days/2, span(0, api.MaxLitres), api.OK)
	checkShows(t, w, 0, 1, span(0, most), api.OK)
	w = walk([]api.Span{just(most)}, read(0, 0, 0))
	checkShows(t, w, 0, days, just(days*most), api.OK)
	w = walk([]api.Span{span(0, most)}, read(0, days, 0))
	checkShows(t, w, 0, 0, span(-days*most, 0), api.OK)
	w = walk([]api.Span{span(0, most)}, read(0, days, 0), read(0, days-1, most))
	checkMisfit(t, w, 0, 0, api.OK)
	checkExplain(t, w, nil, api.ErrState)
	var all []api.Reading
	for house := range api.MaxDoors {
		all = append(all, fastest(house)...)
	}
	w = walk(slices.Repeat([]api.Span{just(most)}, api.MaxDoors), all...)
	checkMisfit(t, w, 0, 0, api.ErrNone)
	w = with(w, swap(20, 23))
	checkMisfit(t, w, 6, 20, api.OK)
	checkExplained(t, w, repairs(swap(20, 23)), all)
	w = walk([]api.Span{span(1, most)}, house(0, days-40, 0, days, 10, days, 10+30*most)...)
	checkExplained(t, w, repairs(late(1, 30, 30)), house(0, days-40, 0, days-30, 10, days, 10+30*most))
	w.Readings[2].Shows++
	checkExplained(t, w, nil, nil)
}

// fastest returns three readings of a house that takes MaxRate in each day.
func fastest(number int) []api.Reading {
	const day, most = api.MaxDay - 2, api.MaxRate
	shows := number * 1_000_000
	return house(number, day, shows, day+1, shows+most, day+2, shows+2*most)
}

// R3: nil lists and empty ones are the same.
func TestEmptyLists(t *testing.T) {
	for _, l := range [][]api.Reading{nil, {}} {
		w := api.Walk{Rates: rates(), Readings: l}
		checkMisfit(t, w, 0, 0, api.ErrNone)
		checkExplain(t, w, nil, api.ErrNone)
		checkMend(t, w, nil, api.ErrNone)
		checkShows(t, w, 1, 7, api.Span{}, api.ErrNone)
		for _, w := range []api.Walk{{Rates: nil, Readings: l}, {Rates: []api.Span{}, Readings: l}} {
			checkMisfit(t, w, 0, 0, api.ErrArg)
			checkShows(t, w, 0, 7, api.Span{}, api.ErrArg)
		}
	}
}

// R4: no argument is changed, also beyond the end of a list, results are new, and what was asked before makes no difference.
func TestArguments(t *testing.T) {
	for _, w := range []api.Walk{example(), one(10, 100, 20, 105, 30, 140), one(10, 100, 20, 100, 30, 140), mended()} {
		w.Rates = append(w.Rates, span(7, 8))[:len(w.Rates)]
		w.Readings = append(w.Readings, read(0, 7, 8))[:len(w.Readings)]
		was := clone(api.Walk{Rates: w.Rates[:len(w.Rates)+1], Readings: w.Readings[:len(w.Readings)+1]})
		for range 2 {
			TestExamples(t)
			repairs, e := card.Explain(w)
			want := slices.Clone(repairs)
			for i := range repairs {
				repairs[i] = copied(-1)
			}
			checkExplain(t, w, want, e)
			readings, e := card.Mend(w)
			left := slices.Clone(readings)
			for i := range readings {
				readings[i] = read(-1, -1, -1)
			}
			checkMend(t, w, left, e)
			checkMend(t, w, left, e)
			card.Misfit(w)
			card.Shows(w, 0, 15)
		}
		if !slices.Equal(w.Rates[:len(was.Rates)], was.Rates) || !slices.Equal(w.Readings[:len(was.Readings)], was.Readings) {
			t.Error("an argument was changed", w, was)
		}
	}
}

// P1 and R2: whatever the arguments are, each function ends, and with an error all other results are zero values.
func TestAnyArguments(t *testing.T) {
	r := rand.New(rand.NewSource(16))
	anyInt := func(most int) int {
		if r.Intn(100) == 0 {
			return pick(r, wild...)
		}
		return r.Intn(most)
	}
	seen := counters{}
	for range 30_000 {
		var w api.Walk
		for range r.Intn(pick(r, 4, 4, 4, api.MaxDoors+2)) {
			lo := anyInt(4)
			w.Rates = append(w.Rates, span(lo, pick(r, lo, max(lo, anyInt(9)), max(lo, anyInt(9)), anyInt(9))))
		}
		for range r.Intn(pick(r, 4, 6, api.MaxReadings+2)) {
			w.Readings = append(w.Readings, read(anyInt(max(1, len(w.Rates))), anyInt(40), anyInt(99)))
		}
		house, reading, e := card.Misfit(w)
		checkZero(t, "Misfit", e, house == 0 && reading == 0, seen)
		repairs, e := card.Explain(w)
		checkZero(t, "Explain", e, len(repairs) == 0, seen)
		if e == api.OK && len(repairs) == 0 {
			t.Fatal("Explain", w, "has no repairs")
		}
		readings, e := card.Mend(w)
		checkZero(t, "Mend", e, len(readings) == 0, seen)
		s, e := card.Shows(w, anyInt(3), anyInt(50))
		checkZero(t, "Shows", e, s == api.Span{}, seen)
	}
	for _, name := range []string{"Misfit", "Explain", "Mend", "Shows"} {
		seen.check(t, 200, name, name+" with an error")
	}
}

func checkZero(t *testing.T, name string, e api.Errno, isZero bool, seen counters) {
	t.Helper()
	seen.see(name, e == api.OK)
	seen.see(name+" with an error", e != api.OK)
	if e != api.OK && !isZero {
		t.Fatal(name, "has the error", e, "and a result")
	}
}
