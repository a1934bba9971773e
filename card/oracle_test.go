package card_test

import (
	"cmp"
	"math/rand"
	"slices"

	"meterworks/api"
)

func pick[T any](r *rand.Rand, l ...T) T { return l[r.Intn(len(l))] }

// numbersOf returns the numbers of the readings of a house, in their order.
func numbersOf(w api.Walk, house int) []int {
	var out []int
	for i, r := range w.Readings {
		if r.House == house {
			out = append(out, i)
		}
	}
	slices.SortFunc(out, func(a, b int) int {
		return cmp.Or(w.Readings[a].Day-w.Readings[b].Day, a-b)
	})
	return out
}

// readingsOf returns the readings of a house, in their order.
func readingsOf(w api.Walk, house int) []api.Reading {
	var out []api.Reading
	for _, i := range numbersOf(w, house) {
		out = append(out, w.Readings[i])
	}
	return out
}

// before returns the reading before another one, of its house, and whether there is one.
func before(w api.Walk, number int) (api.Reading, bool) {
	numbers := numbersOf(w, w.Readings[number].House)
	i := slices.Index(numbers, number)
	if i == 0 {
		return api.Reading{}, false
	}
	return w.Readings[numbers[i-1]], true
}

// figures are what a meter can show on a day.
type figures map[int]bool

// turned returns the figures of a day later, or of a day before.
func (f figures) turned(rate api.Span, days int) figures {
	out := figures{}
	for n := range f {
		for x := rate.Lo; x <= rate.Hi; x++ {
			out[n+days*x] = true
		}
	}
	return out
}

func (f figures) and(other figures) figures {
	out := figures{}
	for n := range f {
		if other[n] {
			out[n] = true
		}
	}
	return out
}

func (f figures) span() api.Span {
	var all []int
	for n := range f {
		all = append(all, n)
	}
	return span(slices.Min(all), slices.Max(all))
}

// run follows a meter from the day of the first reading of a list to another day, a day at a time, later or back,
// and says what it can show there if it has shown on its way what the readings say.
func run(rate api.Span, readings []api.Reading, to int) figures {
	day := readings[0].Day
	step := 1
	if to < day {
		step = -1
	}
	out := figures{readings[0].Shows: true}
	for {
		for _, x := range readings {
			if x.Day == day {
				out = out.and(figures{x.Shows: true})
			}
		}
		if day == to {
			return out
		}
		out = out.turned(rate, step)
		day += step
	}
}

// fitsByTruths goes through all truths, day by day, which takes few days and Rates.
func fitsByTruths(rate api.Span, readings []api.Reading) bool {
	return len(readings) == 0 || len(run(rate, readings, readings[len(readings)-1].Day)) > 0
}

// fitsByPairs takes each two readings of a list that is in order, also those that do not follow one another.
func fitsByPairs(rate api.Span, readings []api.Reading) bool {
	for i, x := range readings {
		for _, y := range readings[i+1:] {
			days, shows := y.Day-x.Day, y.Shows-x.Shows
			if shows < days*rate.Lo || shows > days*rate.Hi {
				return false
			}
		}
	}
	return true
}

// fitter says whether readings of a house, in their order, fit.
type fitter func(rate api.Span, readings []api.Reading) bool

func (fits fitter) all(w api.Walk) bool {
	for house, rate := range w.Rates {
		if !fits(rate, readingsOf(w, house)) {
			return false
		}
	}
	return true
}

func (fits fitter) misfit(w api.Walk) (house, reading int, e api.Errno) {
	for house, rate := range w.Rates {
		numbers, readings := numbersOf(w, house), readingsOf(w, house)
		for i := range readings {
			if !fits(rate, readings[:i+1]) {
				return house, numbers[i], api.OK
			}
		}
	}
	return 0, 0, api.ErrNone
}

// allows reports whether a repair is one for these readings. One that was late is so by one number of days.
func allows(w api.Walk, x api.Repair) bool {
	a := w.Readings[x.A]
	if x.Kind == api.Swap {
		b := w.Readings[x.B]
		return x.A < x.B && a.Day == b.Day && max(a.House-b.House, b.House-a.House) == 1
	}
	last, is := before(w, x.A)
	if x.Kind == api.Copied {
		return is && a.Shows == last.Shows
	}
	return x.B >= 1 && x.B <= api.MaxLate && a.Day-x.B >= 0 && (!is || a.Day-x.B > last.Day)
}

// with returns a walk with a repair that it allows.
func with(w api.Walk, x api.Repair) api.Walk {
	out := clone(w)
	switch x.Kind {
	case api.Swap:
		out.Readings[x.A].Shows, out.Readings[x.B].Shows = w.Readings[x.B].Shows, w.Readings[x.A].Shows
	case api.Copied:
		out.Readings = slices.Delete(out.Readings, x.A, x.A+1)
	case api.Late:
		out.Readings[x.A].Day -= x.B
	}
	return out
}

// explain tries all repairs of all readings, and of all days.
func (fits fitter) explain(w api.Walk) ([]api.Repair, api.Errno) {
	if fits.all(w) {
		return nil, api.ErrNone
	}
	explains := func(x api.Repair) bool { return allows(w, x) && fits.all(with(w, x)) }
	var out []api.Repair
	for a := range w.Readings {
		for b := range w.Readings {
			if x := swap(a, b); explains(x) {
				out = append(out, x)
			}
		}
	}
	for a := range w.Readings {
		if x := copied(a); explains(x) {
			out = append(out, x)
		}
	}
	for a := range w.Readings {
		var days []int
		for n := -2; n <= api.MaxLate+2; n++ {
			if explains(late(a, n, 0)) {
				days = append(days, n)
			}
		}
		if len(days) > 0 {
			out = append(out, late(a, slices.Min(days), slices.Max(days)))
		}
	}
	if out == nil {
		return nil, api.ErrState
	}
	return out, api.OK
}

// mendedBy returns what there is to be mended where all repairs, or the error of them, are known.
func mendedBy(w api.Walk, repairs []api.Repair, e api.Errno) ([]api.Reading, api.Errno) {
	switch {
	case e != api.OK:
		return nil, e
	case len(repairs) > 1:
		return nil, api.ErrDoubt
	}
	return with(w, repairs[0]).Readings, api.OK
}

// shows returns what all truths show on a day.
func shows(w api.Walk, house, day int) (api.Span, api.Errno) {
	rate, readings := w.Rates[house], readingsOf(w, house)
	if len(readings) == 0 {
		return api.Span{}, api.ErrNone
	}
	if !fitsByTruths(rate, readings) {
		return api.Span{}, api.ErrState
	}
	back := slices.Clone(readings)
	slices.Reverse(back)
	switch {
	case day <= readings[0].Day:
		return run(rate, back, day).span(), api.OK
	case day >= back[0].Day:
		return run(rate, readings, day).span(), api.OK
	}
	return run(rate, readings, day).and(run(rate, back, day)).span(), api.OK
}

// kind is how great a walk is.
type kind struct{ doors, days, apart, rate, readings int }

var (
	small  = kind{doors: 3, days: 9, apart: 3, rate: 4, readings: 9}
	middle = kind{doors: 4, days: 200, apart: 40, rate: 10, readings: 16}
	great  = kind{doors: api.MaxDoors, days: api.MaxDay, apart: 80, rate: api.MaxRate, readings: api.MaxReadings}
)

// truth is what the meter of each house shows on each day.
type truth struct {
	rates []api.Span
	from  int
	shown [][]int // of each house, on each day from that one on
}

// someTruth returns a truth of some days. Houses often take the least or the greatest number of their Rates for a while.
func someTruth(r *rand.Rand, k kind) truth {
	x := truth{from: pick(r, 0, r.Intn(k.days+1), max(0, k.days-10*k.apart))}
	for range 1 + r.Intn(k.doors) {
		lo := pick(r, 0, r.Intn(k.rate+1))
		rate := span(lo, min(k.rate, lo+pick(r, 0, 1, r.Intn(k.rate-lo+1), k.rate)))
		x.rates = append(x.rates, rate)
		figure := 20*k.rate + r.Intn(pick(r, 1, 3, 2*k.rate*k.apart+1))
		figures := []int{figure}
		takes := just(rate.Lo)
		for range min(k.days-x.from, 12*k.apart) {
			if r.Intn(4) == 0 {
				takes = pick(r, rate, just(rate.Lo), just(rate.Hi))
			}
			figure += takes.Lo + r.Intn(takes.Hi-takes.Lo+1)
			figures = append(figures, figure)
		}
		x.shown = append(x.shown, figures)
	}
	return x
}

// last returns the last day of a truth.
func (x truth) last() int { return x.from + len(x.shown[0]) - 1 }

func (x truth) shows(house, day int) int { return x.shown[house][day-x.from] }

// walked returns readings of a truth. They come day by day, or in any order.
func (x truth) walked(r *rand.Rand, k kind) api.Walk {
	w := walk(slices.Clone(x.rates))
	day := min(x.last(), x.from+r.Intn(k.apart+1))
	for len(w.Readings) < k.readings && r.Intn(12) > 0 {
		for house := range x.rates {
			if len(w.Readings) < k.readings && r.Intn(4) > 0 {
				w.Readings = append(w.Readings, read(house, day, x.shows(house, day)))
			}
		}
		day = min(x.last(), day+r.Intn(k.apart+1))
	}
	if r.Intn(2) == 0 {
		r.Shuffle(len(w.Readings), func(i, k int) { w.Readings[i], w.Readings[k] = w.Readings[k], w.Readings[i] })
	}
	return w
}

// swapsOf returns all swaps that a walk allows.
func swapsOf(w api.Walk) []api.Repair {
	var out []api.Repair
	for a := range w.Readings {
		for b := range w.Readings {
			if x := swap(a, b); allows(w, x) {
				out = append(out, x)
			}
		}
	}
	return out
}

// mistaken returns a walk with a mistake of some kind, and the repair that mends it, or that there is none.
func mistaken(r *rand.Rand, w api.Walk, kind int) (api.Walk, api.Repair, bool) {
	swaps := swapsOf(w)
	if len(w.Readings) == 0 || kind == api.Swap && len(swaps) == 0 {
		return w, api.Repair{}, false
	}
	if kind == api.Swap {
		x := pick(r, swaps...)
		return with(w, x), x, true
	}
	out := clone(w)
	x := api.Repair{Kind: kind, A: r.Intn(len(w.Readings))}
	if kind == api.Late {
		x.B = 1 + r.Intn(pick(r, 5, api.MaxLate))
		out.Readings[x.A].Day += x.B
	} else if last, is := before(w, x.A); is {
		out.Readings[x.A].Shows = last.Shows
	}
	return out, x, out.Readings[x.A].Day <= api.MaxDay && allows(out, x)
}

// anyWalk returns a walk with some mistakes, of kinds that can be mended or not.
func anyWalk(r *rand.Rand, k kind) api.Walk {
	w := someTruth(r, k).walked(r, k)
	for range pick(r, 0, 1, 1, 1, 2) {
		kind := r.Intn(3)
		for range 20 {
			if other, _, is := mistaken(r, w, kind); is {
				w = other
				break
			}
		}
	}
	if len(w.Readings) > 0 && r.Intn(8) == 0 {
		x := &w.Readings[r.Intn(len(w.Readings))]
		x.Shows = max(0, x.Shows+pick(r, -1, 1)*r.Intn(k.rate*k.apart))
	}
	return w
}

// noise returns a walk whose readings are few numbers on few days, whatever is true.
func noise(r *rand.Rand) api.Walk {
	var w api.Walk
	for range 1 + r.Intn(4) {
		lo := r.Intn(2)
		w.Rates = append(w.Rates, pick(r, span(0, 12), span(lo, lo+r.Intn(3))))
	}
	for when, day := range [3]int{r.Intn(4), 2 + r.Intn(4), 4 + r.Intn(30)} {
		for house := range w.Rates {
			for range pick(r, 0, 1, 1, 1, 1, 1, 2) {
				w.Readings = append(w.Readings, read(house, day, 4*when+r.Intn(8)))
			}
		}
	}
	r.Shuffle(len(w.Readings), func(i, k int) { w.Readings[i], w.Readings[k] = w.Readings[k], w.Readings[i] })
	return w
}
