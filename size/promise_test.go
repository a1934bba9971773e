package size_test

import (
	"math/rand"
	"slices"
	"testing"

	"meterworks/api"
	"meterworks/size"
)

// outcome is what a function returned of a house: whether by the pressure, and which error.
type outcome struct {
	function string
	pressure bool
	e        api.Errno
}

// checkSeen checks that each outcome was seen often enough.
func checkSeen(t *testing.T, seen map[outcome]int, least int) {
	t.Helper()
	for _, o := range []outcome{
		{"Starved", false, api.OK}, {"Starved", true, api.OK}, {"Starved", false, api.ErrNone},
		{"Choose", false, api.OK}, {"Choose", false, api.ErrShort}, {"Choose", false, api.ErrRefuse},
		{"Pair", false, api.OK}, {"Pair", false, api.ErrNone},
		{"Least", false, api.OK}, {"Least", false, api.ErrNone},
	} {
		if seen[o] < least {
			t.Error("the houses are too much alike", o, seen)
		}
	}
}

// checkSizes checks all that is told of a house with sizes, but for the least one.
func checkSizes(t *testing.T, all truths, l []api.Size, seen map[outcome]int) {
	t.Helper()
	for _, s := range l {
		set, pressure, e := all.starved(s)
		checkStarved(t, all.House, s, set, pressure, e)
		seen[outcome{"Starved", pressure, e}]++
	}
	chosen, e := all.choose(l)
	checkChoose(t, all.House, l, chosen, e)
	seen[outcome{"Choose", false, e}]++
	small, great, price, e := all.pair(l)
	checkPair(t, all.House, l, small, great, price, e)
	seen[outcome{"Pair", false, e}]++
}

// P8.1 to P8.5: against all that the taps of small houses can take.
func TestSmallHouses(t *testing.T) {
	r := rand.New(rand.NewSource(2))
	seen := map[outcome]int{}
	for range 1500 {
		all := allTruths(smallHouse(r))
		flow, set := all.peak()
		checkPeak(t, all.House, flow, set, api.OK)
		checkSizes(t, all, smallSizes(r, 5), seen)
		loss := r.Intn(smallLoss + 1)
		full, e := all.least(loss)
		checkLeast(t, all.House, loss, full, e)
		seen[outcome{"Least", false, e}]++
		if t.Failed() {
			return
		}
	}
	checkSeen(t, seen, 100)
}

// P8.1 to P8.5: against houses of any numbers, in truths with both ends of all flows.
func TestGreatHouses(t *testing.T) {
	r := rand.New(rand.NewSource(3))
	seen := map[outcome]int{}
	for range 300 {
		all := someTruths(r, greatHouse(r), 0)
		flow, set := all.peak()
		checkPeak(t, all.House, flow, set, api.OK)
		checkSizes(t, all, greatSizes(r, flow.Hi, 4), seen)
		loss := pick(r, 0, r.Intn(api.MaxHead/10), r.Intn(api.MaxHead+1))
		full, e := size.Least(all.House, loss)
		seen[outcome{"Least", false, e}]++
		switch {
		case e == api.OK && (!all.isEnough(meter(0, full, loss, 0)) || full > 1 && all.isEnough(meter(0, full-1, loss, 0))):
			t.Error("Least", all.House, loss, "is", full)
		case e == api.ErrNone && all.isEnough(meter(0, api.MaxFull, loss, 0)):
			t.Error("Least", all.House, loss, "is none")
		case e != api.OK && e != api.ErrNone:
			t.Error("Least", all.House, loss, "returns", e)
		}
		if t.Failed() {
			return
		}
	}
	checkSeen(t, seen, 10)
}

// P8.6: with the size that is chosen nothing is starved, whatever the taps take, and the drip is heard; with no smaller one both are so.
func TestNobodyIsStarved(t *testing.T) {
	r := rand.New(rand.NewSource(4))
	chosen := 0
	for range 400 {
		all := allTruths(smallHouse(r))
		l := smallSizes(r, api.MaxSizes)
		last, e := size.Choose(all.House, l)
		for i, s := range l {
			if e == api.OK && i > last {
				break
			}
			starves := false
			for _, set := range all.openSets() {
				flow, pressure := all.starves(s, set)
				starves = starves || flow || pressure
			}
			if both := !starves && s.Start <= all.Drip; both != (e == api.OK && i == last) {
				t.Fatal(all.House, l, "gets", last, e, "and not", i)
			}
		}
		if e == api.OK {
			chosen++
		}
	}
	if chosen < 50 {
		t.Error("too few sizes are chosen", chosen)
	}
}

// P8.6: the greatest flow is within the span of Peak, whatever the taps take, and both ends are reached.
func TestGreatestFlows(t *testing.T) {
	r := rand.New(rand.NewSource(5))
	for range 200 {
		h := greatHouse(r)
		within, _, e := size.Peak(h)
		if e != api.OK {
			t.Fatal("Peak", h, "returns", e)
		}
		ends := map[int]bool{}
		all := someTruths(r, h, 8)
		for i := range all.flows {
			flow, _ := truths{h, all.flows[i : i+1]}.peak()
			if flow.Lo < within.Lo || flow.Hi > within.Hi {
				t.Fatal(h, "takes", flow, "and not", within)
			}
			ends[flow.Lo] = true
		}
		if !ends[within.Lo] || !ends[within.Hi] {
			t.Fatal(h, "never takes an end of", within)
		}
	}
}

// starvedSets returns of each set whether it, or a part of it, is starved: the other taps are kept shut by a rule more.
// What starves a part of a set starves it too, if it can be open: it takes no less, and needs no less.
func starvedSets(t *testing.T, h api.House, s api.Size) []bool {
	t.Helper()
	sets := make([]bool, 1<<len(h.Taps))
	for set := range sets {
		_, _, e := size.Starved(with(h, append(slices.Clone(h.Rules), rule(len(sets)-1-set, 0))...), s)
		if e != api.OK && e != api.ErrNone {
			t.Fatal("Starved", h, s, "returns", e)
		}
		sets[set] = e == api.OK
	}
	return sets
}

// change is one with which no other set is starved.
type change struct {
	name   string
	change func(h *api.House, s *api.Size)
}

func changes(r *rand.Rand) []change {
	anyTap := func(h *api.House) *api.Tap { return &h.Taps[r.Intn(len(h.Taps))] }
	lessFlow := func(h *api.House, s *api.Size) {
		t := anyTap(h)
		hi := r.Intn(t.Flow.Hi + 1)
		t.Flow = span(min(t.Flow.Lo, hi), hi)
	}
	return []change{
		{"a greater Head", func(h *api.House, s *api.Size) { h.Head += 1 + r.Intn(5) }},
		{"one rule more", func(h *api.House, s *api.Size) { h.Rules = append(h.Rules, rule(r.Intn(1<<len(h.Taps)), r.Intn(3))) }},
		{"a tap that takes less", lessFlow},
		{"a tap that needs less", func(h *api.House, s *api.Size) { t := anyTap(h); t.Need -= r.Intn(t.Need + 1) }},
		{"a size that bears more", func(h *api.House, s *api.Size) { s.Full += 1 + r.Intn(4) }},
		{"one that bears far more", func(h *api.House, s *api.Size) { s.Full = api.MaxFull }},
	}
}

// P8.7: with more pressure, less flow, less need, a rule more, or a greater Full no other set is starved.
func TestNoOtherSetIsStarved(t *testing.T) {
	r := rand.New(rand.NewSource(6))
	fewer := map[string]int{}
	for range 1500 {
		h, l := smallHouse(r), smallSizes(r, 5)
		if len(l) == 0 {
			continue
		}
		was := l[len(l)/2]
		before := starvedSets(t, h, was)
		for _, c := range changes(r) {
			more, s := h, was
			more.Taps, more.Rules = slices.Clone(h.Taps), slices.Clone(h.Rules)
			c.change(&more, &s)
			for set, starved := range starvedSets(t, more, s) {
				if starved && !before[set] {
					t.Fatal(c.name, h, "becomes", more, "and", was, "becomes", s, "which starves", set)
				}
				if !starved && before[set] {
					fewer[c.name]++
				}
			}
		}
	}
	for _, c := range changes(r) {
		if fewer[c.name] < 100 {
			t.Error("the houses are too much alike", c.name, fewer)
		}
	}
}

// P8.7: with one size more a chosen one is no greater, and a pair costs no more.
func TestOneSizeMore(t *testing.T) {
	r := rand.New(rand.NewSource(7))
	var chosen, lesser, paired, cheaper int
	for range 4000 {
		h, l := smallHouse(r), smallSizes(r, 6)
		if len(l) == 0 {
			continue
		}
		i := r.Intn(len(l))
		less := slices.Delete(slices.Clone(l), i, i+1)
		if before, e := size.Choose(h, less); e == api.OK {
			after, e := size.Choose(h, l)
			if e != api.OK || l[after].Full > less[before].Full {
				t.Fatal(h, less, "gets", before, "and", l, "gets", after, e)
			}
			chosen++
			if l[after].Full < less[before].Full {
				lesser++
			}
		}
		if _, _, before, e := size.Pair(h, less); e == api.OK {
			_, _, after, e := size.Pair(h, l)
			if e != api.OK || after > before {
				t.Fatal(h, less, "costs", before, "and", l, "costs", after, e)
			}
			paired++
			if after < before {
				cheaper++
			}
		}
	}
	if min(chosen, paired) < 300 || min(lesser, cheaper) < 50 {
		t.Error("the sizes are too much alike", chosen, lesser, paired, cheaper)
	}
}

// checkSame checks that the same is told of two houses.
func checkSame(t *testing.T, a, b api.House, l []api.Size, loss int) {
	t.Helper()
	flow, set, e := size.Peak(a)
	checkPeak(t, b, flow, set, e)
	for _, s := range l {
		set, pressure, e := size.Starved(a, s)
		checkStarved(t, b, s, set, pressure, e)
	}
	chosen, e := size.Choose(a, l)
	checkChoose(t, b, l, chosen, e)
	small, great, price, e := size.Pair(a, l)
	checkPair(t, b, l, small, great, price, e)
	full, e := size.Least(a, loss)
	checkLeast(t, b, loss, full, e)
}

// P8.8 and P11: the order of rules makes no difference, nor does one that is there twice.
func TestOrder(t *testing.T) {
	r := rand.New(rand.NewSource(8))
	several := 0
	for range 500 {
		h, l, loss := smallHouse(r), smallSizes(r, 5), r.Intn(smallLoss+1)
		if len(h.Rules) == 0 {
			continue
		}
		several = max(several, len(h.Rules))
		turned := slices.Clone(h.Rules)
		r.Shuffle(len(turned), func(i, k int) { turned[i], turned[k] = turned[k], turned[i] })
		checkSame(t, h, with(h, turned...), l, loss)
		slices.Reverse(turned)
		checkSame(t, h, with(h, turned...), l, loss)
		twice := slices.Insert(turned, r.Intn(len(turned)+1), turned[r.Intn(len(turned))])
		checkSame(t, h, with(h, twice...), l, loss)
		if t.Failed() {
			return
		}
	}
	if several < 4 {
		t.Error("too few rules", several)
	}
}
