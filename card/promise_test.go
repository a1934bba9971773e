package card_test

import (
	"iter"
	"math/rand"
	"slices"
	"testing"

	"meterworks/api"
	"meterworks/card"
)

// counters say how often what was seen.
type counters map[string]int

func (c counters) see(what string, is bool) {
	if is {
		c[what]++
	}
}

// check checks that all was seen often enough.
func (c counters) check(t *testing.T, least int, all ...string) {
	t.Helper()
	for _, what := range all {
		if c[what] < least {
			t.Error("the walks are too much alike:", what, c)
		}
	}
}

// seeRepairs says which kinds of repairs explain a walk.
func (c counters) seeRepairs(w api.Walk, l []api.Repair, e api.Errno) {
	has := func(kind int) bool {
		return slices.ContainsFunc(l, func(x api.Repair) bool { return x.Kind == kind })
	}
	c.see("all fit", e == api.ErrNone && len(w.Readings) > 0)
	c.see("no repair", e == api.ErrState)
	c.see("a swap", has(api.Swap))
	c.see("a copied one", has(api.Copied))
	c.see("a late one", has(api.Late))
	c.see("several kinds", len(l) > 1 && l[0].Kind != l[len(l)-1].Kind)
	c.see("several swaps", len(l) > 1 && l[1].Kind == api.Swap)
	c.see("several days", slices.ContainsFunc(l, func(x api.Repair) bool { return x.B < x.C }))
}

var most = []string{"all fit", "no repair", "a swap", "a copied one", "a late one", "several kinds", "several days"}

// checkAll checks Misfit, Explain and Mend.
func checkAll(t *testing.T, w api.Walk, fits fitter, seen counters) {
	t.Helper()
	house, reading, e := fits.misfit(w)
	checkMisfit(t, w, house, reading, e)
	repairs, e := fits.explain(w)
	checkExplain(t, w, repairs, e)
	readings, f := mendedBy(w, repairs, e)
	checkMend(t, w, readings, f)
	seen.seeRepairs(w, repairs, e)
}

// P12.1 to P12.4: against all truths of small walks.
func TestSmallWalks(t *testing.T) {
	r := rand.New(rand.NewSource(1))
	seen := counters{}
	for range 3000 {
		w := anyWalk(r, small)
		checkAll(t, w, fitsByTruths, seen)
		for house := range w.Rates {
			for day := range small.days + 6 {
				want, e := shows(w, house, day)
				checkShows(t, w, house, day, want, e)
				seen.see("below 0", want.Lo < 0)
				seen.see("not known", want.Lo < want.Hi)
				seen.see("does not fit", e == api.ErrState)
				seen.see("not read", e == api.ErrNone)
			}
		}
		if t.Failed() {
			return
		}
	}
	seen.check(t, 20, append(most, "below 0", "not known", "does not fit", "not read")...)
}

// P12.1 to P12.3: against each two readings of a house, with each repair.
func TestGreatWalks(t *testing.T) {
	for i, k := range []kind{small, middle, great} {
		r := rand.New(rand.NewSource(int64(2 + i)))
		seen := counters{}
		for range []int{8000, 1200, 400}[i] {
			checkAll(t, anyWalk(r, k), fitsByPairs, seen)
			if t.Failed() {
				return
			}
		}
		seen.check(t, 5, most...)
	}
}

// P12.1 to P12.3: the same of readings that are not those of a truth, which explain each other more often.
func TestNoise(t *testing.T) {
	r := rand.New(rand.NewSource(5))
	seen := counters{}
	for range 12_000 {
		checkAll(t, noise(r), fitsByPairs, seen)
		if t.Failed() {
			return
		}
	}
	seen.check(t, 10, append(most, "several swaps")...)
}

// isAmong reports whether a repair is one of a list, one that was late with its number of days.
func isAmong(l []api.Repair, x api.Repair) bool {
	return slices.ContainsFunc(l, func(y api.Repair) bool {
		if x.Kind == api.Late {
			return y.Kind == x.Kind && y.A == x.A && y.B <= x.B && x.B <= y.C
		}
		return x == y
	})
}

// checkAsItWas checks readings that were mended against those before the mistake.
func checkAsItWas(t *testing.T, got, was []api.Reading, x api.Repair) {
	t.Helper()
	same := func(i, k int) bool {
		a, b := got[i], was[k]
		if x.Kind == api.Late && k == x.A {
			a.Day = b.Day
		}
		return a == b
	}
	for i := range got {
		k := i
		if x.Kind == api.Copied && i >= x.A {
			k++
		}
		if !same(i, k) {
			t.Fatal("the readings", was, "with the mistake of", x, "are mended to", got)
		}
	}
	if x.Kind == api.Copied && len(got) != len(was)-1 || x.Kind != api.Copied && len(got) != len(was) {
		t.Fatal("the readings", was, "with the mistake of", x, "are mended to", got)
	}
}

// P9 and P12.5: one mistake in true readings is found, and mended where nothing else explains them.
func TestTheTrueMistake(t *testing.T) {
	for _, kind := range []int{api.Swap, api.Copied, api.Late} {
		r := rand.New(rand.NewSource(int64(6 + kind)))
		seen := counters{}
		for range 8000 {
			k := pick(r, small, small, middle, middle, middle, great)
			was := someTruth(r, k).walked(r, k)
			w, x, is := mistaken(r, was, kind)
			if !is || fitter(fitsByPairs).all(w) {
				seen.see("no mistake", true)
				continue
			}
			found, e := card.Explain(w)
			if e != api.OK || !isAmong(found, x) {
				t.Fatal("Explain", w, "is", found, e, "and the mistake was that of", x)
			}
			seen.see("others", len(found) > 1)
			if len(found) > 1 {
				checkMend(t, w, nil, api.ErrDoubt)
				continue
			}
			got, e := card.Mend(w)
			if e != api.OK {
				t.Fatal("Mend", w, "has the error", e)
			}
			checkAsItWas(t, got, was.Readings, x)
			seen.see("mended", true)
		}
		seen.check(t, 3, "others")
		seen.check(t, 500, "mended")
	}
}

// P12.5: of readings that Mend returns none is left to be explained.
func TestMendedFit(t *testing.T) {
	r := rand.New(rand.NewSource(9))
	mended := 0
	for range 20_000 {
		w := pick(r, noise, func(r *rand.Rand) api.Walk { return anyWalk(r, small) }, func(r *rand.Rand) api.Walk { return anyWalk(r, middle) })(r)
		got, e := card.Mend(w)
		if e != api.OK {
			continue
		}
		mended++
		after := walk(w.Rates, got...)
		checkMisfit(t, after, 0, 0, api.ErrNone)
		checkExplain(t, after, nil, api.ErrNone)
		checkMend(t, after, nil, api.ErrNone)
	}
	if mended < 500 {
		t.Error("the walks are too much alike", mended)
	}
}

// isPart reports whether all numbers of a span are in another one.
func isPart(s, of api.Span) bool { return s.Lo <= s.Hi && s.Lo >= of.Lo && s.Hi <= of.Hi }

// shown returns what a meter can show, by readings that fit.
func shown(t *testing.T, w api.Walk, house, day int) api.Span {
	t.Helper()
	s, e := card.Shows(w, house, day)
	if e != api.OK {
		t.Fatal("Shows", w, house, day, "has the error", e)
	}
	return s
}

// someDays returns days of a truth and about it: those of the readings of a walk, each with its neighbours, and others.
func someDays(r *rand.Rand, x truth, w api.Walk) []int {
	days := []int{0, api.MaxDay, x.from, x.last(), r.Intn(api.MaxDay + 1), x.from + r.Intn(x.last()-x.from+1)}
	for _, y := range w.Readings {
		days = append(days, y.Day-1, y.Day, y.Day+1)
	}
	return slices.DeleteFunc(days, func(day int) bool { return day < 0 || day > api.MaxDay })
}

// walked is a walk of a truth, a house that has readings in it, and days.
type walked struct {
	truth
	api.Walk
	house int
	days  []int
}

// someWalked gives walks of truths.
func someWalked(r *rand.Rand) iter.Seq[walked] {
	return func(yield func(walked) bool) {
		for range 2000 {
			k := pick(r, small, middle, great)
			k.readings--
			x := someTruth(r, k)
			w := x.walked(r, k)
			if len(w.Readings) > 0 && !yield(walked{x, w, pick(r, w.Readings...).House, someDays(r, x, w)}) {
				return
			}
		}
	}
}

// P3 and P12.6: whatever a house takes, what its meter shows is within Shows, on each day.
func TestTheTrueFigure(t *testing.T) {
	for x := range someWalked(rand.New(rand.NewSource(10))) {
		for _, day := range x.days {
			if day < x.from || day > x.last() {
				continue
			}
			if s, n := shown(t, x.Walk, x.house, day), x.shows(x.house, day); !isPart(just(n), s) {
				t.Fatal("Shows", x.Walk, x.house, day, "is", s, "and the meter shows", n)
			}
		}
	}
}

// fitsWith reports whether the readings of a house fit with one more.
func fitsWith(w api.Walk, more api.Reading) bool {
	w = walk(w.Rates, append(slices.Clone(w.Readings), more)...)
	return fitsByPairs(w.Rates[more.House], readingsOf(w, more.House))
}

// P12.6: both ends are those of a truth, in which the meter shows them, and beyond them there is none.
func TestEnds(t *testing.T) {
	for x := range someWalked(rand.New(rand.NewSource(11))) {
		for _, day := range x.days {
			s := shown(t, x.Walk, x.house, day)
			for n, want := range map[int]bool{s.Lo: true, s.Hi: true, s.Lo - 1: false, s.Hi + 1: false} {
				if fitsWith(x.Walk, read(x.house, day, n)) != want {
					t.Fatal("Shows", x.Walk, x.house, day, "is", s, "and that the meter shows", n, "fits", !want)
				}
			}
		}
	}
}

// P12.6: with one reading more that fits no span is wider, and on its day it is what the reading shows.
func TestOneReadingMore(t *testing.T) {
	r := rand.New(rand.NewSource(12))
	narrower := 0
	for x := range someWalked(r) {
		day := pick(r, x.days...)
		s := shown(t, x.Walk, x.house, day)
		figure := pick(r, s.Lo, s.Hi, s.Lo+r.Intn(s.Hi-s.Lo+1))
		if figure < 0 || figure > api.MaxLitres {
			continue
		}
		more := clone(x.Walk)
		more.Readings = slices.Insert(more.Readings, r.Intn(len(more.Readings)+1), read(x.house, day, figure))
		checkShows(t, more, x.house, day, just(figure), api.OK)
		for _, other := range x.days {
			was, now := shown(t, x.Walk, x.house, other), shown(t, more, x.house, other)
			if !isPart(now, was) {
				t.Fatal("Shows", more, x.house, other, "is", now, "and was", was)
			}
			if now != was {
				narrower++
			}
		}
	}
	if narrower < 1000 {
		t.Error("the walks are too much alike", narrower)
	}
}

// P12.6: from one day to the next both ends rise by what the Rate allows.
func TestFromDayToDay(t *testing.T) {
	for x := range someWalked(rand.New(rand.NewSource(13))) {
		rate := x.Rates[x.house]
		for _, day := range x.days {
			if day == api.MaxDay {
				continue
			}
			was, now := shown(t, x.Walk, x.house, day), shown(t, x.Walk, x.house, day+1)
			if !isPart(just(now.Lo-was.Lo), rate) || !isPart(just(now.Hi-was.Hi), rate) {
				t.Fatal("Shows", x.Walk, x.house, day, "is", was, "and on the next day", now)
			}
		}
	}
}

// turnedDays returns a walk in which the days come in another order, and of each number the one that it was before. Readings of a day keep their order.
func turnedDays(r *rand.Rand, w api.Walk) (api.Walk, []int) {
	place := map[int][]int{}
	order := make([]int, len(w.Readings))
	for i, k := range r.Perm(len(w.Readings)) {
		order[i] = k
		place[w.Readings[k].Day] = append(place[w.Readings[k].Day], i)
	}
	for _, places := range place {
		var numbers []int
		for _, i := range places {
			numbers = append(numbers, order[i])
		}
		slices.Sort(numbers)
		for i, k := range numbers {
			order[places[i]] = k
		}
	}
	out := walk(w.Rates)
	for _, k := range order {
		out.Readings = append(out.Readings, w.Readings[k])
	}
	return out, order
}

// P11 and P12.7: the order of readings of different days makes no difference, but for their numbers.
func TestOrder(t *testing.T) {
	r := rand.New(rand.NewSource(14))
	seen := counters{}
	for range 10_000 {
		w := pick(r, noise(r), anyWalk(r, small), anyWalk(r, middle))
		other, order := turnedDays(r, w)
		house, reading, e := card.Misfit(w)
		if e == api.OK {
			reading = slices.Index(order, reading)
		}
		checkMisfit(t, other, house, reading, e)
		checkOrder(t, w, other, order, seen)
		for house := range w.Rates {
			day := pick(r, r.Intn(10), r.Intn(api.MaxDay+1))
			s, e := card.Shows(w, house, day)
			checkShows(t, other, house, day, s, e)
		}
		if t.Failed() {
			return
		}
	}
	seen.check(t, 20, append(most, "several swaps")...)
}

// checkOrder checks Explain and Mend of a walk against another one that has its readings in an order.
func checkOrder(t *testing.T, w, other api.Walk, order []int, seen counters) {
	t.Helper()
	repairs, e := card.Explain(w)
	seen.seeRepairs(w, repairs, e)
	left := -1
	for i, x := range repairs {
		if x.Kind == api.Copied {
			left = x.A
		}
		repairs[i].A = slices.Index(order, x.A)
		if x.Kind == api.Swap {
			repairs[i].B = slices.Index(order, x.B)
		}
	}
	slices.SortFunc(repairs, func(x, y api.Repair) int {
		return slices.Compare([]int{x.Kind, x.A, x.B}, []int{y.Kind, y.A, y.B})
	})
	checkExplain(t, other, repairs, e)
	readings, e := card.Mend(w)
	var want []api.Reading
	for _, k := range order {
		if e != api.OK || k == left {
			continue
		}
		if left >= 0 && k > left {
			k--
		}
		want = append(want, readings[k])
	}
	checkMend(t, other, want, e)
}

// P12.7: a house more without readings makes no difference, after the others, and before them but for their numbers.
func TestHouseMore(t *testing.T) {
	r := rand.New(rand.NewSource(15))
	for range 5000 {
		w := pick(r, noise(r), anyWalk(r, small), anyWalk(r, middle))
		more := api.Span{Lo: r.Intn(5), Hi: 5 + r.Intn(5)}
		first := r.Intn(2)
		other := clone(w)
		other.Rates = slices.Insert(other.Rates, (1-first)*len(w.Rates), more)
		for i := range other.Readings {
			other.Readings[i].House += first
		}
		house, reading, e := card.Misfit(w)
		if e == api.OK {
			house += first
		}
		checkMisfit(t, other, house, reading, e)
		repairs, e := card.Explain(w)
		checkExplain(t, other, repairs, e)
		readings, e := card.Mend(w)
		for i := range readings {
			readings[i].House += first
		}
		checkMend(t, other, readings, e)
		for house := range w.Rates {
			s, e := card.Shows(w, house, 7)
			checkShows(t, other, house+first, 7, s, e)
		}
		checkShows(t, other, (1-first)*len(w.Rates), 7, api.Span{}, api.ErrNone)
		if t.Failed() {
			return
		}
	}
}
