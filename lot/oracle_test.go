package lot_test

import (
	"math/big"
	"math/bits"
	"math/rand"

	"meterworks/api"
)

func pick[T any](r *rand.Rand, l ...T) T { return l[r.Intn(len(l))] }

// counts says of lots of one size, for each number of bad meters and each number of samples, how many samples have so many bad ones.
type counts struct {
	size  int
	found [][][]int
}

func newCounts(size int) counts {
	c := counts{size: size, found: make([][][]int, size+1)}
	for bad := range c.found {
		for samples := range size + 1 {
			c.found[bad] = append(c.found[bad], make([]int, samples+1))
		}
	}
	return c
}

// drawn takes each sample of a small lot, by bits. The bad meters are the first ones.
func drawn(size int) counts {
	c := newCounts(size)
	for bad, of := range c.found {
		for sample := range uint(1) << size {
			of[bits.OnesCount(sample)][bits.OnesCount(sample&(1<<bad-1))]++
		}
	}
	return c
}

// choices is in how many ways so many can be taken.
func choices(of, take int) int {
	if take < 0 || take > of {
		return 0
	}
	return int(new(big.Int).Binomial(int64(of), int64(take)).Int64())
}

// reckoned counts the samples of any lot.
func reckoned(size int) counts {
	c := newCounts(size)
	for bad, of := range c.found {
		for samples := range of {
			for found := range of[samples] {
				of[samples][found] = choices(bad, found) * choices(size-bad, samples-found)
			}
		}
	}
	return c
}

// between returns how many samples have from so many to so many bad meters.
func (c counts) between(bad, samples, from, to int) int {
	sum := 0
	for found := from; found <= to; found++ {
		sum += c.found[bad][samples][found]
	}
	return sum
}

func (c counts) all(bad, samples int) int { return c.between(bad, samples, 0, samples) }

func (c counts) passed(bad int, p api.Plan) int { return c.between(bad, p.Samples, 0, p.Accept) }

// The oracles follow the words of the chapter.

func (c counts) makerKept(l api.Lot, bad int, p api.Plan) bool {
	return 1000*c.passed(bad, p) >= (1000-l.Maker)*c.all(bad, p.Samples)
}

func (c counts) buyerKept(l api.Lot, bad int, p api.Plan) bool {
	return 1000*c.passed(bad, p) <= l.Buyer*c.all(bad, p.Samples)
}

func (c counts) keepsMaker(l api.Lot, p api.Plan) bool {
	for bad := 0; bad <= l.Good; bad++ {
		if !c.makerKept(l, bad, p) {
			return false
		}
	}
	return true
}

func (c counts) keepsBuyer(l api.Lot, p api.Plan) bool {
	for bad := l.Bad; bad <= l.Size; bad++ {
		if !c.buyerKept(l, bad, p) {
			return false
		}
	}
	return true
}

func (c counts) fails(l api.Lot, p api.Plan) (bad int, maker bool, e api.Errno) {
	for bad := 0; bad <= l.Size; bad++ {
		switch {
		case bad <= l.Good && !c.makerKept(l, bad, p):
			return bad, true, api.OK
		case bad >= l.Bad && !c.buyerKept(l, bad, p):
			return bad, false, api.OK
		}
	}
	return 0, false, api.ErrNone
}

// choose returns a plan that is none if there is none.
func (c counts) choose(l api.Lot) api.Plan {
	for samples := range l.Size + 1 {
		for accept := range samples + 1 {
			if p := plan(samples, accept); c.keepsMaker(l, p) && c.keepsBuyer(l, p) {
				return p
			}
		}
	}
	return plan(-1, -1)
}

func (c counts) proof(l api.Lot) []api.Row {
	var rows []api.Row
	for samples := range c.choose(l).Samples + 1 {
		row := api.Row{Samples: samples, Maker: api.NoAccept, Buyer: api.NoAccept}
		for accept := range samples + 1 {
			if row.Maker == api.NoAccept && c.keepsMaker(l, plan(samples, accept)) {
				row.Maker = accept
			}
			if c.keepsBuyer(l, plan(samples, accept)) {
				row.Buyer = accept
			}
		}
		rows = append(rows, row)
	}
	return rows
}

func (c counts) within(samples, found, doubt int) (api.Span, api.Errno) {
	s, e := api.Span{}, api.ErrNone
	for bad := range c.size + 1 {
		most := doubt * c.all(bad, samples)
		if 1000*c.between(bad, samples, 0, found) <= most || 1000*c.between(bad, samples, found, samples) <= most {
			continue
		}
		if e == api.ErrNone {
			s.Lo = bad
		}
		s.Hi, e = bad, api.OK
	}
	return s, e
}

// pairs says, for how many bad ones are in the first sample and how many in the second one, in how many pairs this is so.
type pairs [][]int

func newPairs(first, second int) pairs {
	var p pairs
	for range first + 1 {
		p = append(p, make([]int, second+1))
	}
	return p
}

// drawnPairs takes each first sample of a small lot with each second one of the meters that are left, by bits.
func drawnPairs(size, bad, first, second int) pairs {
	p := newPairs(first, second)
	isBad := uint(1)<<bad - 1
	for one := range uint(1) << size {
		for two := range uint(1) << size {
			if one&two == 0 && bits.OnesCount(one) == first && bits.OnesCount(two) == second {
				p[bits.OnesCount(one&isBad)][bits.OnesCount(two&isBad)]++
			}
		}
	}
	return p
}

// reckonedPairs takes both samples as one first, and then parts it.
func reckonedPairs(size, bad, first, second int) pairs {
	p := newPairs(first, second)
	for one := range p {
		for two := range p[one] {
			both := choices(bad, one+two) * choices(size-bad, first+second-one-two)
			p[one][two] = both * choices(one+two, one) * choices(first+second-one-two, first-one)
		}
	}
	return p
}

// twice follows the words of the chapter.
func (p pairs) twice(d api.Double) (passed, second, all int) {
	for one := range p {
		for two, ways := range p[one] {
			all += ways
			needed := one > d.Accept && one < d.Refuse
			if needed {
				second += ways
			}
			if one <= d.Accept || needed && one+two <= d.Total {
				passed += ways
			}
		}
	}
	return passed, second, all
}

// eachDouble calls f with all two samples of so many meters each.
func eachDouble(first, second int, f func(d api.Double)) {
	for accept := 0; accept <= first; accept++ {
		for refuse := accept + 1; refuse <= first+1; refuse++ {
			for total := accept; total <= first+second; total++ {
				f(api.Double{First: first, Accept: accept, Refuse: refuse, Second: second, Total: total})
			}
		}
	}
}

// anyLot returns a valid lot of a size.
func anyLot(r *rand.Rand, size int) api.Lot {
	l := api.Lot{Size: size, Bad: 1 + r.Intn(size)}
	l.Good = pick(r, 0, l.Bad-1, r.Intn(l.Bad))
	l.Maker = pick(r, 0, 1, 50, 100, 999, 1000, r.Intn(1001))
	l.Buyer = pick(r, 0, 1, 50, 100, 999, 1000, r.Intn(1001))
	return l
}

// anyPlan returns a plan for a size.
func anyPlan(r *rand.Rand, size int) api.Plan {
	samples := pick(r, 0, size, r.Intn(size+1), r.Intn(size+1), r.Intn(size+1))
	return plan(samples, pick(r, 0, samples, r.Intn(samples+1), r.Intn(samples+1)))
}
