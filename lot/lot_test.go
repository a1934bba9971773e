package lot_test

import (
	"math"
	"math/rand"
	"slices"
	"testing"

	"meterworks/api"
	"meterworks/lot"
)

func plan(samples, accept int) api.Plan { return api.Plan{Samples: samples, Accept: accept} }

func span(lo, hi int) api.Span { return api.Span{Lo: lo, Hi: hi} }

func exampleLot() api.Lot { return api.Lot{Size: 10, Good: 1, Bad: 4, Maker: 100, Buyer: 200} }

// proved returns the rows of a proof: for each number of samples, from 0 on, what the maker needs, and what the buyer can bear.
func proved(l ...int) []api.Row {
	var rows []api.Row
	for i := 0; i < len(l); i += 2 {
		rows = append(rows, api.Row{Samples: i / 2, Maker: l[i], Buyer: l[i+1]})
	}
	return rows
}

func exampleRows() []api.Row {
	return proved(0, -1, 0, -1, 1, -1, 1, 0, 1, 0, 1, 0, 1, 1)
}

func exampleDouble() api.Double {
	return api.Double{First: 2, Accept: 0, Refuse: 2, Second: 2, Total: 1}
}

func checkWays(t *testing.T, size, bad int, p api.Plan, passed, all int, e api.Errno) {
	t.Helper()
	if a, b, f := lot.Ways(size, bad, p); a != passed || b != all || f != e {
		t.Error("Ways", size, bad, p, "is", a, b, f, "and not", passed, all, e)
	}
}

func checkFails(t *testing.T, l api.Lot, p api.Plan, bad int, maker bool, e api.Errno) {
	t.Helper()
	if a, b, f := lot.Fails(l, p); a != bad || b != maker || f != e {
		t.Error("Fails", l, p, "is", a, b, f, "and not", bad, maker, e)
	}
}

func checkChoose(t *testing.T, l api.Lot, want api.Plan, e api.Errno) {
	t.Helper()
	if got, f := lot.Choose(l); got != want || f != e {
		t.Error("Choose", l, "is", got, f, "and not", want, e)
	}
}

func checkProof(t *testing.T, l api.Lot, want []api.Row, e api.Errno) {
	t.Helper()
	if got, f := lot.Proof(l); !slices.Equal(got, want) || f != e {
		t.Error("Proof", l, "is", got, f, "and not", want, e)
	}
}

func checkTwice(t *testing.T, size, bad int, d api.Double, passed, second, all int, e api.Errno) {
	t.Helper()
	if a, b, c, f := lot.Twice(size, bad, d); a != passed || b != second || c != all || f != e {
		t.Error("Twice", size, bad, d, "is", a, b, c, f, "and not", passed, second, all, e)
	}
}

func checkWithin(t *testing.T, size, samples, found, doubt int, want api.Span, e api.Errno) {
	t.Helper()
	if got, f := lot.Within(size, samples, found, doubt); got != want || f != e {
		t.Error("Within", size, samples, found, doubt, "is", got, f, "and not", want, e)
	}
}

// The chapter's examples.
func TestExamples(t *testing.T) {
	checkWays(t, 10, 4, plan(6, 1), 25, 210, api.OK)
	checkWays(t, 10, 1, plan(3, 0), 84, 120, api.OK)
	l := exampleLot()
	checkChoose(t, l, plan(6, 1), api.OK)
	checkProof(t, l, exampleRows(), api.OK)
	checkFails(t, l, plan(5, 1), 4, false, api.OK)
	checkFails(t, l, plan(3, 0), 1, true, api.OK)
	checkFails(t, l, plan(6, 1), 0, false, api.ErrNone)
	checkTwice(t, 10, 2, exampleDouble(), 1120, 448, 1260, api.OK)
	checkWithin(t, 10, 3, 1, 100, span(1, 7), api.OK)
}

// P6.1: the least and the greatest of all.
func TestWays(t *testing.T) {
	const half = 126410606437752 // in how many ways 25 of 50 can be taken
	checkWays(t, 1, 0, plan(0, 0), 1, 1, api.OK)
	checkWays(t, 1, 0, plan(1, 0), 1, 1, api.OK)
	checkWays(t, 1, 1, plan(0, 0), 1, 1, api.OK)
	checkWays(t, 1, 1, plan(1, 0), 0, 1, api.OK)
	checkWays(t, 1, 1, plan(1, 1), 1, 1, api.OK)
	checkWays(t, 50, 0, plan(25, 0), half, half, api.OK)
	checkWays(t, 50, 50, plan(25, 24), 0, half, api.OK)
	checkWays(t, 50, 50, plan(25, 25), half, half, api.OK)
	checkWays(t, 50, 25, plan(25, 12), half/2, half, api.OK)
	checkWays(t, 50, 25, plan(25, 0), 1, half, api.OK)
	checkWays(t, 50, 26, plan(25, 0), 0, half, api.OK)
	checkWays(t, 50, 1, plan(25, 0), half/2, half, api.OK)
	checkWays(t, 50, 7, plan(50, 6), 0, 1, api.OK)
	checkWays(t, 50, 7, plan(50, 7), 1, 1, api.OK)
	checkWays(t, 50, 33, plan(0, 0), 1, 1, api.OK)
	checkWays(t, 10, 4, plan(6, 0), 1, 210, api.OK)
	checkWays(t, 10, 5, plan(6, 0), 0, 210, api.OK)
	checkWays(t, 10, 5, plan(6, 1), 5, 210, api.OK)
}

// P6.2: whose risk is not kept, and from which number of bad meters on.
func TestFails(t *testing.T) {
	for _, s := range []struct {
		l     api.Lot
		p     api.Plan
		bad   int
		maker bool
		e     api.Errno
	}{
		{api.Lot{Size: 1, Good: 0, Bad: 1}, plan(0, 0), 1, false, api.OK},
		{api.Lot{Size: 1, Good: 0, Bad: 1}, plan(1, 1), 1, false, api.OK},
		{api.Lot{Size: 1, Good: 0, Bad: 1}, plan(1, 0), 0, false, api.ErrNone},
		{api.Lot{Size: 1, Good: 0, Bad: 1, Buyer: 999}, plan(0, 0), 1, false, api.OK},
		{api.Lot{Size: 1, Good: 0, Bad: 1, Buyer: 1000}, plan(0, 0), 0, false, api.ErrNone},
		// Of 10 meters 2 are bad: of all samples of 1 the lot passes on 800 thousandths; 3: on 700.
		{api.Lot{Size: 10, Good: 2, Bad: 3, Maker: 200, Buyer: 700}, plan(1, 0), 0, false, api.ErrNone},
		{api.Lot{Size: 10, Good: 2, Bad: 3, Maker: 199, Buyer: 700}, plan(1, 0), 2, true, api.OK},
		{api.Lot{Size: 10, Good: 2, Bad: 3, Maker: 200, Buyer: 699}, plan(1, 0), 3, false, api.OK},
		{api.Lot{Size: 10, Good: 2, Bad: 3, Maker: 199, Buyer: 699}, plan(1, 0), 2, true, api.OK},
		{api.Lot{Size: 10, Good: 2, Bad: 3, Maker: 99, Buyer: 699}, plan(1, 0), 1, true, api.OK},
		{api.Lot{Size: 10, Good: 7, Bad: 8, Maker: 399, Buyer: 0}, plan(1, 0), 4, true, api.OK},
		{api.Lot{Size: 10, Good: 7, Bad: 8, Maker: 1000, Buyer: 0}, plan(1, 0), 8, false, api.OK},
		{api.Lot{Size: 10, Good: 0, Bad: 10, Maker: 0, Buyer: 0}, plan(1, 0), 0, false, api.ErrNone},
		{api.Lot{Size: 10, Good: 0, Bad: 9, Maker: 0, Buyer: 0}, plan(1, 0), 9, false, api.OK},
		{api.Lot{Size: 10, Good: 0, Bad: 9, Maker: 0, Buyer: 100}, plan(1, 0), 0, false, api.ErrNone},
		{api.Lot{Size: 50, Good: 49, Bad: 50}, plan(50, 49), 0, false, api.ErrNone},
		{api.Lot{Size: 50, Good: 49, Bad: 50}, plan(50, 48), 49, true, api.OK},
		{api.Lot{Size: 50, Good: 49, Bad: 50}, plan(50, 50), 50, false, api.OK},
		{api.Lot{Size: 50, Good: 49, Bad: 50, Maker: 1000, Buyer: 1000}, plan(25, 3), 0, false, api.ErrNone},
		// One bad meter is in just half of all samples of 25.
		{api.Lot{Size: 50, Good: 1, Bad: 50, Maker: 500}, plan(25, 0), 0, false, api.ErrNone},
		{api.Lot{Size: 50, Good: 1, Bad: 50, Maker: 499}, plan(25, 0), 1, true, api.OK},
		{api.Lot{Size: 50, Good: 0, Bad: 1, Buyer: 500}, plan(25, 0), 0, false, api.ErrNone},
		{api.Lot{Size: 50, Good: 0, Bad: 1, Buyer: 499}, plan(25, 0), 1, false, api.OK},
	} {
		checkFails(t, s.l, s.p, s.bad, s.maker, s.e)
	}
}

// P6.3 and P6.4: the least and the greatest risks, and lots of one meter and of most.
func TestChooseAndProof(t *testing.T) {
	const none = api.NoAccept
	for _, s := range []struct {
		l    api.Lot
		rows []api.Row
	}{
		{api.Lot{Size: 1, Good: 0, Bad: 1}, proved(0, none, 0, 0)},
		{api.Lot{Size: 1, Good: 0, Bad: 1, Maker: 1000}, proved(0, none, 0, 0)},
		{api.Lot{Size: 1, Good: 0, Bad: 1, Buyer: 999}, proved(0, none, 0, 0)},
		{api.Lot{Size: 1, Good: 0, Bad: 1, Buyer: 1000}, proved(0, 0)},
		{api.Lot{Size: 50, Good: 49, Bad: 50, Maker: 1000, Buyer: 1000}, proved(0, 0)},
		{api.Lot{Size: 3, Good: 1, Bad: 2}, proved(0, none, 1, none, 1, 0, 1, 1)},
		{api.Lot{Size: 3, Good: 0, Bad: 3}, proved(0, none, 0, 0)},
		{api.Lot{Size: 3, Good: 2, Bad: 3}, proved(0, none, 1, 0, 2, 1, 2, 2)},
		// Two of four are bad: of all samples of 2 one in six has none of them.
		{api.Lot{Size: 4, Good: 0, Bad: 2, Buyer: 167}, proved(0, none, 0, none, 0, 0)},
		{api.Lot{Size: 4, Good: 0, Bad: 2, Buyer: 166}, proved(0, none, 0, none, 0, none, 0, 0)},
		// With Buyer MaxChances the buyer bears each Accept.
		{api.Lot{Size: 4, Good: 1, Bad: 2, Maker: 0, Buyer: 1000}, proved(0, 0)},
		// With Maker MaxChances the maker needs none.
		{api.Lot{Size: 4, Good: 2, Bad: 3, Maker: 1000, Buyer: 500}, proved(0, none, 0, 0)},
	} {
		last := s.rows[len(s.rows)-1]
		checkProof(t, s.l, s.rows, api.OK)
		checkChoose(t, s.l, plan(last.Samples, last.Maker), api.OK)
	}
	most := api.Lot{Size: 50, Good: 49, Bad: 50}
	checkChoose(t, most, plan(50, 49), api.OK)
	rows := proved(0, none)
	for samples := 1; samples < 50; samples++ {
		rows = append(rows, api.Row{Samples: samples, Maker: samples, Buyer: samples - 1})
	}
	checkProof(t, most, append(rows, api.Row{Samples: 50, Maker: 49, Buyer: 49}), api.OK)
	checkChoose(t, api.Lot{Size: 50, Good: 0, Bad: 1}, plan(50, 0), api.OK)
	checkChoose(t, api.Lot{Size: 50, Good: 0, Bad: 1, Buyer: 500}, plan(25, 0), api.OK)
	checkChoose(t, api.Lot{Size: 50, Good: 0, Bad: 1, Buyer: 499}, plan(26, 0), api.OK)
	checkChoose(t, api.Lot{Size: 50, Good: 24, Bad: 25}, plan(50, 24), api.OK)
}

// P6.5: each of both samples empty, and Refuse and Total from end to end.
func TestTwice(t *testing.T) {
	for _, s := range []struct {
		size, bad           int
		d                   api.Double
		passed, second, all int
	}{
		{1, 0, api.Double{Refuse: 1}, 1, 0, 1},
		{1, 1, api.Double{Refuse: 1}, 1, 0, 1},
		{1, 1, api.Double{First: 1, Refuse: 1}, 0, 0, 1},
		{1, 1, api.Double{First: 1, Refuse: 2}, 0, 1, 1},
		{1, 1, api.Double{First: 1, Refuse: 2, Total: 1}, 1, 1, 1},
		{1, 1, api.Double{First: 1, Accept: 1, Refuse: 2, Total: 1}, 1, 0, 1},
		{1, 1, api.Double{Second: 1, Refuse: 1}, 1, 0, 1},
		// An empty second sample can be needed: then Total decides.
		{10, 2, api.Double{First: 3, Accept: 0, Refuse: 1, Total: 3}, 56, 0, 120},
		{10, 2, api.Double{First: 3, Accept: 0, Refuse: 2, Total: 0}, 56, 56, 120},
		{10, 2, api.Double{First: 3, Accept: 0, Refuse: 2, Total: 1}, 112, 56, 120},
		{10, 2, api.Double{First: 3, Accept: 0, Refuse: 3, Total: 1}, 112, 64, 120},
		{10, 2, api.Double{First: 3, Accept: 0, Refuse: 4, Total: 2}, 120, 64, 120},
		// Refuse of the example from Accept + 1 to First + 1.
		{10, 2, api.Double{First: 2, Accept: 0, Refuse: 1, Second: 2, Total: 1}, 784, 0, 1260},
		{10, 2, api.Double{First: 2, Accept: 0, Refuse: 2, Second: 2, Total: 1}, 1120, 448, 1260},
		{10, 2, api.Double{First: 2, Accept: 0, Refuse: 3, Second: 2, Total: 1}, 1120, 476, 1260},
		{10, 2, api.Double{First: 2, Accept: 0, Refuse: 3, Second: 2, Total: 2}, 1260, 476, 1260},
		{10, 2, api.Double{First: 2, Accept: 0, Refuse: 3, Second: 2, Total: 0}, 784, 476, 1260},
		{10, 2, api.Double{First: 2, Accept: 1, Refuse: 3, Second: 2, Total: 1}, 1232, 28, 1260},
		{10, 0, api.Double{First: 2, Accept: 0, Refuse: 3, Second: 2, Total: 1}, 1260, 0, 1260},
		{10, 10, api.Double{First: 2, Accept: 0, Refuse: 3, Second: 2, Total: 3}, 0, 1260, 1260},
		{10, 10, api.Double{First: 2, Accept: 0, Refuse: 3, Second: 2, Total: 4}, 1260, 1260, 1260},
		{10, 10, api.Double{First: 2, Accept: 1, Refuse: 2, Second: 2, Total: 4}, 0, 0, 1260},
		// The greatest of all.
		{30, 0, api.Double{First: 10, Accept: 0, Refuse: 1, Second: 10, Total: 0}, 5550996791340, 0, 5550996791340},
		{30, 30, api.Double{First: 10, Accept: 0, Refuse: 11, Second: 10, Total: 20}, 5550996791340, 5550996791340, 5550996791340},
		{30, 15, api.Double{First: 15, Accept: 7, Refuse: 8, Second: 15, Total: 15}, 77558760, 0, 155117520},
		{30, 15, api.Double{First: 15, Accept: 7, Refuse: 16, Second: 15, Total: 14}, 77558760, 77558760, 155117520},
		{30, 15, api.Double{First: 15, Accept: 7, Refuse: 16, Second: 15, Total: 15}, 155117520, 77558760, 155117520},
	} {
		checkTwice(t, s.size, s.bad, s.d, s.passed, s.second, s.all, api.OK)
	}
}

// P6.6: doubt from 0 to MaxChances, and what no sample and all meters say.
func TestWithin(t *testing.T) {
	for _, size := range []int{1, 2, 10, 50} {
		checkWithin(t, size, 0, 0, 0, span(0, size), api.OK)
		checkWithin(t, size, 0, 0, 999, span(0, size), api.OK)
		checkWithin(t, size, 0, 0, 1000, api.Span{}, api.ErrNone)
		for found := range size + 1 {
			checkWithin(t, size, size, found, 0, span(found, found), api.OK)
			checkWithin(t, size, size, found, 999, span(found, found), api.OK)
			checkWithin(t, size, size, found, 1000, api.Span{}, api.ErrNone)
		}
	}
	checkWithin(t, 10, 3, 1, 0, span(1, 8), api.OK)
	checkWithin(t, 10, 3, 0, 0, span(0, 7), api.OK)
	checkWithin(t, 10, 3, 3, 0, span(3, 10), api.OK)
	checkWithin(t, 10, 3, 1, 800, api.Span{}, api.ErrNone)
	checkWithin(t, 10, 3, 1, 1000, api.Span{}, api.ErrNone)
	checkWithin(t, 50, 25, 0, 0, span(0, 25), api.OK)
	checkWithin(t, 50, 25, 25, 0, span(25, 50), api.OK)
	// Of two meters one is bad: just half of all samples of one have it.
	checkWithin(t, 2, 1, 0, 499, span(0, 1), api.OK)
	checkWithin(t, 2, 1, 0, 500, span(0, 0), api.OK)
	checkWithin(t, 2, 1, 0, 999, span(0, 0), api.OK)
	checkWithin(t, 2, 1, 1, 499, span(1, 2), api.OK)
	checkWithin(t, 2, 1, 1, 500, span(2, 2), api.OK)
	checkWithin(t, 50, 25, 0, 499, span(0, 1), api.OK)
	checkWithin(t, 50, 25, 0, 500, span(0, 0), api.OK)
	checkWithin(t, 50, 25, 25, 499, span(49, 50), api.OK)
	checkWithin(t, 50, 25, 25, 500, span(50, 50), api.OK)
}

// beyond is numbers that are less than 0, or more than a limit.
func beyond(most int) []int {
	return []int{math.MinInt, math.MinInt + 1, -2, -1, most + 1, most + 2, math.MaxInt - 1, math.MaxInt}
}

// P6.1: ErrArg comes before ErrRange.
func TestWrongWays(t *testing.T) {
	wrong := []api.Plan{plan(-1, -1), plan(-1, 0), plan(11, 0), plan(11, 11), plan(3, -1), plan(3, 4), plan(0, 1),
		plan(math.MinInt, math.MinInt), plan(math.MaxInt, 0), plan(3, math.MaxInt), plan(3, math.MinInt)}
	for _, size := range append(beyond(api.MaxLot), 0) {
		checkWays(t, size, 0, plan(0, 0), 0, 0, api.ErrArg)
		checkWays(t, size, size, plan(0, 0), 0, 0, api.ErrArg)
		checkWays(t, size, -1, wrong[0], 0, 0, api.ErrArg)
	}
	for _, bad := range beyond(10) {
		checkWays(t, 10, bad, plan(3, 1), 0, 0, api.ErrRange)
		checkWays(t, 10, bad, wrong[0], 0, 0, api.ErrRange)
	}
	for _, p := range wrong {
		checkWays(t, 10, 4, p, 0, 0, api.ErrRange)
	}
	checkWays(t, api.MaxLot, api.MaxLot+1, plan(0, 0), 0, 0, api.ErrRange)
	checkWays(t, api.MaxLot, 0, plan(api.MaxLot+1, 0), 0, 0, api.ErrRange)
}

// P6.2 to P6.4: lots that are not valid, and plans that are none for a lot.
func TestWrongLots(t *testing.T) {
	wrong := []api.Lot{{}, {Size: 0, Good: 0, Bad: 0}, {Size: 0, Good: 0, Bad: 1}, {Size: -1, Good: 0, Bad: -1},
		{Size: 51, Good: 1, Bad: 4}, {Size: math.MaxInt, Good: 1, Bad: 4}, {Size: math.MinInt, Good: 1, Bad: 4},
		{Size: 10, Good: -1, Bad: 4}, {Size: 10, Good: -1, Bad: 0}, {Size: 10, Good: 4, Bad: 4}, {Size: 10, Good: 5, Bad: 4},
		{Size: 10, Good: 0, Bad: 0}, {Size: 10, Good: 1, Bad: 11}, {Size: 10, Good: 10, Bad: 11},
		{Size: 10, Good: math.MaxInt, Bad: math.MinInt}, {Size: 10, Good: math.MinInt, Bad: 4}, {Size: 10, Good: 0, Bad: math.MaxInt}}
	for _, n := range beyond(api.MaxChances) {
		maker, buyer := exampleLot(), exampleLot()
		maker.Maker, buyer.Buyer = n, n
		wrong = append(wrong, maker, buyer)
	}
	for _, l := range wrong {
		checkFails(t, l, plan(0, 0), 0, false, api.ErrArg)
		checkFails(t, l, plan(-1, 0), 0, false, api.ErrArg)
		checkChoose(t, l, api.Plan{}, api.ErrArg)
		checkProof(t, l, nil, api.ErrArg)
	}
	for _, p := range []api.Plan{plan(-1, -1), plan(-1, 0), plan(11, 1), plan(3, -1), plan(3, 4), plan(0, 1),
		plan(math.MinInt, math.MinInt), plan(math.MaxInt, math.MaxInt), plan(3, math.MaxInt)} {
		checkFails(t, exampleLot(), p, 0, false, api.ErrRange)
		kept := api.Lot{Size: 10, Good: 1, Bad: 4, Maker: 1000, Buyer: 1000}
		checkFails(t, kept, p, 0, false, api.ErrRange)
	}
}

// P6.5: ErrArg comes before ErrRange.
func TestWrongDoubles(t *testing.T) {
	for name, change := range map[string]func(d *api.Double, n int){
		"First":  func(d *api.Double, n int) { d.First = n },
		"Accept": func(d *api.Double, n int) { d.Accept = n },
		"Refuse": func(d *api.Double, n int) { d.Refuse = n },
		"Second": func(d *api.Double, n int) { d.Second = n },
		"Total":  func(d *api.Double, n int) { d.Total = n },
	} {
		most := map[string]int{"First": 8, "Accept": 1, "Refuse": 3, "Second": 8, "Total": 4}[name]
		for _, n := range beyond(most) {
			d := exampleDouble()
			change(&d, n)
			checkTwice(t, 10, 2, d, 0, 0, 0, api.ErrArg)
			checkTwice(t, 10, -1, d, 0, 0, 0, api.ErrArg)
		}
	}
	for _, d := range []api.Double{
		{First: 2, Accept: 0, Refuse: 0, Second: 2, Total: 1},
		{First: 2, Accept: 1, Refuse: 1, Second: 2, Total: 1},
		{First: 2, Accept: 1, Refuse: 2, Second: 2, Total: 0},
		{First: 2, Accept: 3, Refuse: 3, Second: 2, Total: 3},
		{First: 2, Accept: 2, Refuse: 4, Second: 2, Total: 3},
		{First: 2, Accept: 0, Refuse: 1, Second: 9, Total: 3},
		{First: 11, Accept: 0, Refuse: 1, Second: -1, Total: 3},
		{First: -1, Accept: 0, Refuse: 1, Second: 2, Total: 1},
		{First: -1, Accept: -1, Refuse: 0, Second: 2, Total: 1},
		{First: math.MaxInt, Accept: 0, Refuse: 1, Second: math.MaxInt, Total: 1},
		{First: 2, Accept: math.MaxInt, Refuse: math.MinInt, Second: 2, Total: 1},
	} {
		checkTwice(t, 10, 2, d, 0, 0, 0, api.ErrArg)
	}
	empty := api.Double{Refuse: 1}
	for _, size := range append(beyond(api.MaxDouble), 0, api.MaxLot) {
		checkTwice(t, size, 0, empty, 0, 0, 0, api.ErrArg)
		checkTwice(t, size, -1, empty, 0, 0, 0, api.ErrArg)
	}
	for _, bad := range beyond(10) {
		checkTwice(t, 10, bad, exampleDouble(), 0, 0, 0, api.ErrRange)
		checkTwice(t, 10, bad, empty, 0, 0, 0, api.ErrRange)
	}
	checkTwice(t, api.MaxDouble, api.MaxDouble, empty, 1, 0, 1, api.OK)
}

// P6.6: ErrArg comes before ErrRange, and both before ErrNone.
func TestWrongWithin(t *testing.T) {
	for _, doubt := range append(beyond(api.MaxChances), 0, 100, api.MaxChances) {
		for _, size := range append(beyond(api.MaxLot), 0) {
			checkWithin(t, size, 0, 0, doubt, api.Span{}, api.ErrArg)
		}
		for _, samples := range beyond(10) {
			checkWithin(t, 10, samples, 0, doubt, api.Span{}, api.ErrArg)
		}
		for _, found := range beyond(3) {
			checkWithin(t, 10, 3, found, doubt, api.Span{}, api.ErrArg)
		}
		checkWithin(t, 10, -1, -1, doubt, api.Span{}, api.ErrArg)
		checkWithin(t, 10, 11, 11, doubt, api.Span{}, api.ErrArg)
	}
	for _, doubt := range beyond(api.MaxChances) {
		checkWithin(t, 10, 3, 1, doubt, api.Span{}, api.ErrRange)
		checkWithin(t, 1, 0, 0, doubt, api.Span{}, api.ErrRange)
	}
}

// R4: the rows of a proof are new.
func TestMemory(t *testing.T) {
	one, _ := lot.Proof(exampleLot())
	two, _ := lot.Proof(exampleLot())
	one[0], one[6] = api.Row{Samples: 77}, api.Row{Samples: 78}
	if !slices.Equal(two, exampleRows()) {
		t.Error("two results share memory", two)
	}
	checkProof(t, exampleLot(), exampleRows(), api.OK)
}

// P1 and R2: whatever the arguments are, each function ends, and with an error all other results are zero values.
func TestAnyArguments(t *testing.T) {
	r := rand.New(rand.NewSource(16))
	wild := []int{math.MinInt, -1000, -2, -1, 0, 1, 2, 29, 30, 31, 49, 50, 51, 999, 1000, 1001, math.MaxInt - 1, math.MaxInt}
	anyInt := func() int { return pick(r, wild[r.Intn(len(wild))], r.Intn(4), r.Intn(4), r.Intn(9), r.Intn(51)) }
	seen := map[string]int{}
	for range 100_000 {
		l := api.Lot{Size: anyInt(), Good: anyInt(), Bad: anyInt(), Maker: anyInt(), Buyer: anyInt()}
		p := plan(anyInt(), anyInt())
		d := api.Double{First: anyInt(), Accept: anyInt(), Refuse: anyInt(), Second: anyInt(), Total: anyInt()}
		size, bad, doubt := anyInt(), anyInt(), anyInt()
		passed, all, e1 := lot.Ways(size, bad, p)
		fails, maker, e2 := lot.Fails(l, p)
		chosen, e3 := lot.Choose(l)
		rows, e4 := lot.Proof(l)
		twice, second, pairs, e5 := lot.Twice(size, bad, d)
		within, e6 := lot.Within(size, p.Samples, p.Accept, doubt)
		for name, is := range map[string]struct{ ok, zero bool }{
			"Ways":   {e1 == api.OK, passed == 0 && all == 0},
			"Fails":  {e2 == api.OK, fails == 0 && !maker},
			"Choose": {e3 == api.OK, chosen == api.Plan{}},
			"Proof":  {e4 == api.OK, len(rows) == 0},
			"Twice":  {e5 == api.OK, twice == 0 && second == 0 && pairs == 0},
			"Within": {e6 == api.OK, within == api.Span{}},
		} {
			if is.ok {
				seen[name]++
			} else if !is.zero {
				t.Fatal(name, l, p, d, size, bad, doubt, "has an error, and a result")
			}
		}
	}
	for _, name := range []string{"Ways", "Fails", "Choose", "Proof", "Twice", "Within"} {
		if seen[name] < 100 {
			t.Error("too few arguments are valid", name, seen[name])
		}
	}
}
