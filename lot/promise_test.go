package lot_test

import (
	"math/rand"
	"testing"

	"meterworks/api"
	"meterworks/lot"
)

// smallSize is up to which size each sample is taken.
const smallSize = 8

// eachPlan calls f with all plans for a size.
func eachPlan(size int, f func(p api.Plan)) {
	for samples := range size + 1 {
		for accept := range samples + 1 {
			f(plan(samples, accept))
		}
	}
}

// P6.1: against all samples of small lots, and against numbers of choices of greater ones.
func TestWaysAgainstSamples(t *testing.T) {
	all := []counts{reckoned(9), reckoned(30), reckoned(49), reckoned(50)}
	for size := 1; size <= smallSize; size++ {
		all = append(all, drawn(size))
	}
	for _, c := range all {
		for bad := range c.size + 1 {
			eachPlan(c.size, func(p api.Plan) {
				if c.size > 30 && (bad*p.Samples+p.Accept)%5 > 0 {
					return
				}
				checkWays(t, c.size, bad, p, c.passed(bad, p), c.all(bad, p.Samples), api.OK)
			})
		}
	}
}

// checkLot checks all that is told of a lot, but for plans.
func checkLot(t *testing.T, c counts, l api.Lot) {
	t.Helper()
	checkChoose(t, l, c.choose(l), api.OK)
	checkProof(t, l, c.proof(l), api.OK)
}

// P6.2 to P6.4: against all samples of small lots, with risks from end to end.
func TestSmallLots(t *testing.T) {
	risks := []int{0, 1, 99, 100, 250, 333, 500, 999, 1000}
	for size := 1; size <= 5; size++ {
		c := drawn(size)
		for i := range size * len(risks) * len(risks) {
			l := api.Lot{Size: size, Bad: 1 + i%size, Maker: risks[i/size%len(risks)], Buyer: risks[i/size/len(risks)]}
			for ; l.Good < l.Bad; l.Good++ {
				checkLot(t, c, l)
				eachPlan(size, func(p api.Plan) {
					bad, maker, e := c.fails(l, p)
					checkFails(t, l, p, bad, maker, e)
				})
			}
		}
		if t.Failed() {
			return
		}
	}
}

// P6.2 to P6.4: against numbers of choices, for lots of any size.
func TestAnyLots(t *testing.T) {
	r := rand.New(rand.NewSource(1))
	failing := map[bool]int{}
	longest := 0
	for _, size := range []int{6, 10, 17, 29, 30, 31, 43, 50} {
		c := reckoned(size)
		for range 60 {
			l := anyLot(r, size)
			checkLot(t, c, l)
			longest = max(longest, c.choose(l).Samples)
			for range 20 {
				p := anyPlan(r, size)
				bad, maker, e := c.fails(l, p)
				checkFails(t, l, p, bad, maker, e)
				if e == api.OK {
					failing[maker]++
				}
			}
		}
		if t.Failed() {
			return
		}
	}
	if min(failing[false], failing[true]) < 500 || longest < 50 {
		t.Error("the lots are too much alike", failing, longest)
	}
}

// P6.5: against all pairs of samples of small lots.
func TestTwiceAgainstPairs(t *testing.T) {
	for size := 1; size <= 5; size++ {
		for bad := range size + 1 {
			for first := range size + 1 {
				for second := range size - first + 1 {
					p := drawnPairs(size, bad, first, second)
					eachDouble(first, second, func(d api.Double) {
						passed, then, all := p.twice(d)
						checkTwice(t, size, bad, d, passed, then, all, api.OK)
					})
				}
			}
		}
	}
}

// P6.5: against numbers of choices, for lots of any size.
func TestAnyTwice(t *testing.T) {
	r := rand.New(rand.NewSource(2))
	refused, needed := 0, 0
	for range 10_000 {
		size := pick(r, api.MaxDouble, 1+r.Intn(api.MaxDouble))
		d := api.Double{First: r.Intn(size + 1)}
		d.Second = pick(r, 0, size-d.First, r.Intn(size-d.First+1), r.Intn(size-d.First+1))
		d.Accept = pick(r, 0, d.First, r.Intn(d.First+1), r.Intn(d.First+1))
		d.Refuse = d.Accept + 1 + pick(r, 0, d.First-d.Accept, r.Intn(d.First-d.Accept+1))
		d.Total = d.Accept + r.Intn(d.First+d.Second-d.Accept+1)
		bad := pick(r, 0, size, r.Intn(size+1), r.Intn(size+1), r.Intn(size+1))
		passed, then, all := reckonedPairs(size, bad, d.First, d.Second).twice(d)
		checkTwice(t, size, bad, d, passed, then, all, api.OK)
		if then > 0 {
			needed++
		}
		if passed < all {
			refused++
		}
		if t.Failed() {
			return
		}
	}
	if min(refused, needed) < 2000 {
		t.Error("the lots are too much alike", refused, needed)
	}
}

// P6.6: against the words of the chapter.
func TestWithinAgainstSamples(t *testing.T) {
	none := 0
	for _, c := range []counts{drawn(1), drawn(2), drawn(3), drawn(5), drawn(smallSize), reckoned(11), reckoned(20), reckoned(50)} {
		for _, doubt := range []int{0, 1, 25, 100, 333, 499, 500, 501, 750, 999, 1000} {
			eachPlan(c.size, func(p api.Plan) {
				s, e := c.within(p.Samples, p.Accept, doubt)
				checkWithin(t, c.size, p.Samples, p.Accept, doubt, s, e)
				if e == api.ErrNone && doubt < 1000 {
					none++
				}
			})
		}
	}
	if none < 100 {
		t.Error("too often something is within", none)
	}
}

// P6.7: neither risk of the plan that is chosen is greater than printed, whatever the lot is, and no plan with fewer samples keeps both.
// (The maker's Accept is there in each row, by P6.8: with that of all Samples each lot passes.)
func TestRisks(t *testing.T) {
	r := rand.New(rand.NewSource(3))
	for range 400 {
		l := anyLot(r, 1+r.Intn(api.MaxLot))
		chosen, e := lot.Choose(l)
		rows, f := lot.Proof(l)
		if e != api.OK || f != api.OK || len(rows) != chosen.Samples+1 {
			t.Fatal(l, "has", chosen, e, rows, f)
		}
		for bad := range l.Size + 1 {
			passed, all, _ := lot.Ways(l.Size, bad, chosen)
			if bad <= l.Good && 1000*(all-passed) > l.Maker*all || bad >= l.Bad && 1000*passed > l.Buyer*all {
				t.Error(l, "passes on", passed, "of", all, "with", bad)
			}
		}
		checkFails(t, l, chosen, 0, false, api.ErrNone)
		for samples, row := range rows {
			last := samples == chosen.Samples
			proves := row.Maker > row.Buyer || row.Buyer == api.NoAccept
			if row.Samples != samples || row.Maker == api.NoAccept || proves == last || last && row.Maker != chosen.Accept {
				t.Error(l, "has the row", row, "of", rows, "with", chosen)
			}
			for accept := range samples + 1 {
				_, _, kept := lot.Fails(l, plan(samples, accept))
				if kept == api.ErrNone && (!last || accept < chosen.Accept) {
					t.Error(l, "is kept by", samples, accept, "and not only by", chosen)
				}
			}
		}
		if t.Failed() {
			return
		}
	}
}

// P6.7: who tests all meters runs no risk.
func TestAllAreTested(t *testing.T) {
	for size := 1; size <= api.MaxLot; size++ {
		for good := range size {
			for _, bad := range []int{good + 1, size} {
				checkFails(t, api.Lot{Size: size, Good: good, Bad: bad}, plan(size, good), 0, false, api.ErrNone)
			}
		}
	}
}

func passedOf(t *testing.T, size, bad int, p api.Plan) (passed, all int) {
	t.Helper()
	passed, all, e := lot.Ways(size, bad, p)
	if e != api.OK || passed < 0 || passed > all || all < 1 {
		t.Fatal("Ways", size, bad, p, "is", passed, all, e)
	}
	return passed, all
}

// P6.8: with more bad meters no more samples pass a lot, with a greater Accept no fewer.
func TestMorePass(t *testing.T) {
	for _, size := range []int{1, 2, 3, 7, 16, 50} {
		for samples := range size + 1 {
			for accept := range samples + 1 {
				p := plan(samples, accept)
				before, all := passedOf(t, size, 0, p)
				if before != all {
					t.Error("a lot without bad ones does not pass", size, p, before, all)
				}
				for bad := 1; bad <= size; bad++ {
					passed, _ := passedOf(t, size, bad, p)
					if passed > before {
						t.Error("more bad ones pass more often", size, bad, p)
					}
					before = passed
					if fewer, _, e := lot.Ways(size, bad, plan(samples, accept-1)); e == api.OK && fewer > passed {
						t.Error("with a greater Accept fewer pass", size, bad, p)
					}
					if accept == samples && passed != all {
						t.Error("with Accept of all it does not pass", size, bad, p, passed, all)
					}
				}
			}
		}
	}
}

// P6.8: two samples the second one of which is empty are one sample, if Refuse is one more than Accept.
func TestEmptySecondSample(t *testing.T) {
	for _, size := range []int{1, 2, 5, 9, 30} {
		for bad := range size + 1 {
			eachPlan(size, func(p api.Plan) {
				passed, all := passedOf(t, size, bad, p)
				for _, total := range []int{p.Accept, p.Samples} {
					d := api.Double{First: p.Samples, Accept: p.Accept, Refuse: p.Accept + 1, Total: total}
					checkTwice(t, size, bad, d, passed, 0, all, api.OK)
				}
			})
		}
	}
}

// P6.9: of all samples at most doubt thousandths let the lot be above what is within, and at most doubt thousandths below it.
func TestTruthIsWithin(t *testing.T) {
	for _, size := range []int{1, 2, 3, 7, 13, 50} {
		c := reckoned(size)
		for _, doubt := range []int{0, 1, 25, 100, 300, 499, 500, 700, 999, 1000} {
			for samples := 0; samples <= size; samples += 1 + size/30 {
				above, below := make([]int, size+1), make([]int, size+1)
				for found := range samples + 1 {
					s, e := lot.Within(size, samples, found, doubt)
					if e != api.OK {
						continue
					}
					for bad := range size + 1 {
						if bad > s.Hi {
							above[bad] += c.found[bad][samples][found]
						}
						if bad < s.Lo {
							below[bad] += c.found[bad][samples][found]
						}
					}
				}
				for bad := range size + 1 {
					if most := doubt * c.all(bad, samples); 1000*above[bad] > most || 1000*below[bad] > most {
						t.Error(size, samples, doubt, bad, "is above and below", above[bad], below[bad], "of", c.all(bad, samples))
					}
				}
			}
		}
	}
}

// P6.9: with a greater doubt no more numbers are within.
func TestMoreDoubt(t *testing.T) {
	for _, size := range []int{1, 4, 11, 50} {
		eachPlan(size, func(p api.Plan) {
			if size == 50 && (p.Samples+p.Accept)%11 > 0 {
				return
			}
			before := span(0, size)
			for doubt := 0; doubt <= api.MaxChances; doubt += 1 + size*2 {
				s, e := lot.Within(size, p.Samples, p.Accept, doubt)
				if e == api.ErrNone {
					s = span(size+1, -1)
				}
				if s.Lo < before.Lo || s.Hi > before.Hi {
					t.Error(size, p, doubt, "says", s, "after", before)
				}
				before = s
			}
		})
	}
}
