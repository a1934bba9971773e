package size_test

import (
	"math/big"
	"math/rand"

	"meterworks/api"
)

func pick[T any](r *rand.Rand, l ...T) T { return l[r.Intn(len(l))] }

// truths are a house, and what its taps can take: a flow for each of them, in each truth.
type truths struct {
	api.House
	flows [][]int
}

// allTruths are all that the taps of a small house can take, number by number.
func allTruths(h api.House) truths {
	flows := [][]int{nil}
	for _, t := range h.Taps {
		var more [][]int
		for _, before := range flows {
			for flow := t.Flow.Lo; flow <= t.Flow.Hi; flow++ {
				more = append(more, append(append([]int{}, before...), flow))
			}
		}
		flows = more
	}
	return truths{h, flows}
}

// someTruths are that each tap takes as little as it can, or as much, or anything between.
func someTruths(r *rand.Rand, h api.House, between int) truths {
	all := truths{h, make([][]int, 2+between)}
	for _, t := range h.Taps {
		all.flows[0] = append(all.flows[0], t.Flow.Lo)
		all.flows[1] = append(all.flows[1], t.Flow.Hi)
		for i := range between {
			all.flows[2+i] = append(all.flows[2+i], t.Flow.Lo+r.Intn(t.Flow.Hi-t.Flow.Lo+1))
		}
	}
	return all
}

func isIn(tap, set int) bool { return set>>tap&1 == 1 }

// The oracles follow the words of the chapter.

func (all truths) isOpen(set int) bool {
	for _, r := range all.Rules {
		open := 0
		for tap := range all.Taps {
			if isIn(tap, set) && isIn(tap, r.Taps) {
				open++
			}
		}
		if open > r.Most {
			return false
		}
	}
	return true
}

// openSets returns all sets that can be open together, by their numbers, but for the empty one.
func (all truths) openSets() []int {
	var sets []int
	for set := 1; set < 1<<len(all.Taps); set++ {
		if all.isOpen(set) {
			sets = append(sets, set)
		}
	}
	return sets
}

func flowOf(set int, flows []int) int {
	sum := 0
	for tap, flow := range flows {
		if isIn(tap, set) {
			sum += flow
		}
	}
	return sum
}

func (all truths) needOf(set int) int {
	need := 0
	for tap, t := range all.Taps {
		if isIn(tap, set) {
			need = max(need, t.Need)
		}
	}
	return need
}

// peak takes the greatest flow in each truth, and then the first set that has the greatest of all in some truth.
func (all truths) peak() (flow api.Span, set int) {
	sets := append([]int{0}, all.openSets()...)
	for i, flows := range all.flows {
		greatest := 0
		for _, s := range sets {
			greatest = max(greatest, flowOf(s, flows))
		}
		if i == 0 {
			flow = span(greatest, greatest)
		}
		flow = span(min(flow.Lo, greatest), max(flow.Hi, greatest))
	}
	for _, s := range sets {
		for _, flows := range all.flows {
			if flowOf(s, flows) == flow.Hi {
				return flow, s
			}
		}
	}
	return flow, -1
}

// starves looks at a set in each truth.
func (all truths) starves(s api.Size, set int) (flow, pressure bool) {
	for _, flows := range all.flows {
		taken := int64(flowOf(set, flows))
		if taken > int64(s.Full) {
			return true, false
		}
		part := big.NewRat(taken, int64(s.Full))
		left := new(big.Rat).Mul(part, part)
		left.Mul(left, big.NewRat(int64(s.Loss), 1))
		left.Sub(big.NewRat(int64(all.Head), 1), left)
		if left.Cmp(big.NewRat(int64(all.needOf(set)), 1)) < 0 {
			pressure = true
		}
	}
	return false, pressure
}

func (all truths) starved(s api.Size) (set int, pressure bool, e api.Errno) {
	for _, set := range all.openSets() {
		if flow, pressure := all.starves(s, set); flow || pressure {
			return set, pressure, api.OK
		}
	}
	return 0, false, api.ErrNone
}

func (all truths) isEnough(s api.Size) bool {
	_, _, e := all.starved(s)
	return e == api.ErrNone
}

func (all truths) choose(l []api.Size) (int, api.Errno) {
	e := api.ErrShort
	for i, s := range l {
		if all.isEnough(s) && s.Start <= all.Drip {
			return i, api.OK
		}
		if all.isEnough(s) {
			e = api.ErrRefuse
		}
	}
	return 0, e
}

func (all truths) pair(l []api.Size) (small, great, price int, e api.Errno) {
	e = api.ErrNone
	for j := range l {
		if !all.isEnough(l[j]) {
			continue
		}
		for i := range j {
			sum := l[i].Price + l[j].Price
			if l[i].Start > all.Drip || l[j].Start > l[i].Full {
				continue
			}
			if e == api.ErrNone || sum < price || sum == price && i < small {
				small, great, price, e = i, j, sum, api.OK
			}
		}
	}
	return small, great, price, e
}

// The numbers of small houses. With a Full of smallFull not even the most that their taps can take costs one of a loss of smallLoss,
// so that no size is enough if that one is not.
const (
	smallTaps = 4
	smallTake = 4
	smallLoss = 24
	smallFull = smallTaps * smallTake * 5
)

func (all truths) least(loss int) (int, api.Errno) {
	for full := 1; full <= smallFull; full++ {
		if all.isEnough(meter(0, full, loss, 0)) {
			return full, api.OK
		}
	}
	return 0, api.ErrNone
}

func someRules(r *rand.Rand, taps, most int) []api.Rule {
	var rules []api.Rule
	for range r.Intn(most + 1) {
		rules = append(rules, rule(r.Intn(1<<taps), pick(r, 0, 1, 1, 1, 2, 2, 3, api.MaxTaps)))
	}
	return rules
}

// smallHouse returns a house of small numbers, whose taps take one of few flows.
func smallHouse(r *rand.Rand) api.House {
	h := house(r.Intn(40), r.Intn(4))
	for range 1 + r.Intn(smallTaps) {
		lo := r.Intn(smallTake + 1)
		h.Taps = append(h.Taps, tap(lo, min(smallTake, lo+r.Intn(3)), r.Intn(pick(r, 2, 10, 10, 25))))
	}
	h.Rules = someRules(r, len(h.Taps), pick(r, 0, 2, 4))
	return h
}

// smallSizes returns sizes for small houses, with a loss that grows or lessens from the one to the next.
func smallSizes(r *rand.Rand, most int) []api.Size {
	var l []api.Size
	full := r.Intn(8)
	for range r.Intn(most + 1) {
		full += 1 + r.Intn(5)
		l = append(l, meter(r.Intn(min(full, 9)+1), full, r.Intn(smallLoss+1), r.Intn(6)))
	}
	return l
}

// greatHouse returns a house of any numbers. Its needs are less than its Head, mostly.
func greatHouse(r *rand.Rand) api.House {
	h := house(pick(r, api.MaxHead, r.Intn(api.MaxHead+1)), r.Intn(1000))
	for range pick(r, api.MaxTaps, 1+r.Intn(api.MaxTaps)) {
		lo := pick(r, 0, r.Intn(api.MaxTake+1), r.Intn(1000))
		hi := pick(r, api.MaxTake, lo+r.Intn(api.MaxTake-lo+1), lo+r.Intn(min(api.MaxTake-lo, 500)+1))
		h.Taps = append(h.Taps, tap(lo, hi, r.Intn(pick(r, h.Head+1, h.Head/2+1, h.Head/2+1, h.Head/2+1))))
	}
	h.Rules = someRules(r, len(h.Taps), pick(r, 0, 3, 7))
	return h
}

// greatSizes returns sizes for a house, some of which can bear its greatest flow.
func greatSizes(r *rand.Rand, peak, most int) []api.Size {
	var l []api.Size
	full := r.Intn(peak + 1)
	for range 1 + r.Intn(most) {
		full += 1 + r.Intn(peak/2+1)
		if full > api.MaxFull {
			break
		}
		l = append(l, meter(r.Intn(min(full, 2000)+1), full, pick(r, 0, r.Intn(api.MaxHead/10), r.Intn(api.MaxHead+1)), r.Intn(pick(r, 3, api.MaxMeterPrice+1))))
	}
	return l
}
