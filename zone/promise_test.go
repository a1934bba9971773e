package zone_test

import (
	"math/rand"
	"slices"
	"testing"

	"meterworks/api"
	"meterworks/zone"
)

// outcome is what a function returned.
type outcome struct {
	function string
	e        api.Errno
}

// checkSeen checks that each outcome was seen often enough.
func checkSeen(t *testing.T, seen map[outcome]int, least int) {
	t.Helper()
	for _, o := range []outcome{
		{"Losses", api.OK}, {"Losses", api.ErrState}, {"Wrong", api.OK}, {"Wrong", api.ErrNone},
		{"First", api.OK}, {"First", api.ErrState}, {"First", api.ErrNone},
	} {
		if seen[o] < least {
			t.Error("the zones are too much alike", o, seen)
		}
	}
}

// checkNights checks what is told of the leaks of zones, whose losses are known.
func checkNights(t *testing.T, l []api.Zone, losses []api.Span, e api.Errno, nights []api.Night, seen map[outcome]int) {
	t.Helper()
	var leak []api.Span
	for _, n := range nights {
		leak = append(leak, leaksOf(n))
	}
	checkLeaks(t, l, nights, leak, api.OK)
	first := 0
	if e == api.OK {
		first, e = firstOf(l, losses, nights)
	}
	checkFirst(t, l, nights, first, e)
	seen[outcome{"First", e}]++
}

// P9.1 to P9.5: against all truths of small zones.
func TestSmallZones(t *testing.T) {
	r := rand.New(rand.NewSource(2))
	seen := map[outcome]int{}
	wrongs, parts := map[int]int{}, 0
	for range 3000 {
		l := smallZones(r)
		checkOwn(t, l, ownsOf(l), api.OK)
		losses, e := lossesOf(l)
		checkLosses(t, l, losses, e)
		seen[outcome{"Losses", e}]++
		wrong, none := wrongOf(l)
		checkWrong(t, l, wrong, none)
		seen[outcome{"Wrong", none}]++
		wrongs[wrong]++
		if e == api.OK && len(partsOf(l, api.NoZone)) < len(l) {
			parts++
		}
		checkNights(t, l, losses, e, anyNights(r, len(l), 5), seen)
		if t.Failed() {
			return
		}
	}
	checkSeen(t, seen, 50)
	if parts < 100 || len(wrongs) < 5 {
		t.Error("the zones are too much alike", parts, wrongs)
	}
}

// wholes are zones of which each has parts that have parts, and whose spans are so narrow that they bound each other.
func wholes(r *rand.Rand) []api.Zone {
	var l []api.Zone
	for i := range 7 {
		part := max(0, i-1-r.Intn(3))
		if i == 0 {
			part = api.NoZone
		}
		lo := r.Intn(4)
		l = append(l, loses(lo, lo+r.Intn(4), part))
	}
	for i := len(l) - 1; i >= 0; i-- {
		if parts := partsOf(l, i); len(parts) > 0 {
			sum := -1
			for _, p := range parts {
				sum += l[p].In.Lo + r.Intn(l[p].In.Hi-l[p].In.Lo+2)
			}
			sum = max(0, sum)
			l[i].In = span(sum, sum+r.Intn(3))
		}
	}
	return l
}

// P9.2 and P9.3: against all truths of zones that have parts of parts.
func TestPartsOfParts(t *testing.T) {
	r := rand.New(rand.NewSource(3))
	var narrowed, wrong int
	for range 1500 {
		l := wholes(r)
		losses, e := lossesOf(l)
		checkLosses(t, l, losses, e)
		i, none := wrongOf(l)
		checkWrong(t, l, i, none)
		if t.Failed() {
			return
		}
		if e == api.OK && !slices.Equal(losses, ownsOf(l)) {
			narrowed++
		}
		if none == api.OK && i > 0 {
			wrong++
		}
	}
	if min(narrowed, wrong) < 200 {
		t.Error("the zones are too much alike", narrowed, wrong)
	}
}

// P9.1 to P9.5: against zones of any numbers, with sums that are looked at until nothing changes.
func TestGreatZones(t *testing.T) {
	r := rand.New(rand.NewSource(4))
	seen := map[outcome]int{}
	for range 1000 {
		l, _ := trueZones(r)
		if r.Intn(3) == 0 {
			z := &l[r.Intn(len(l))]
			z.In = anyLitres(r, pick(r, z.In.Hi, api.MaxLitres))
		}
		checkOwn(t, l, ownsOf(l), api.OK)
		losses, e := tightened(l)
		checkLosses(t, l, losses, e)
		seen[outcome{"Losses", e}]++
		checkNights(t, l, losses, e, anyNights(r, len(l), pick(r, 100, api.MaxLitres)), seen)
		wrong, none := lastWrong(l)
		checkWrong(t, l, wrong, none)
		seen[outcome{"Wrong", none}]++
		if t.Failed() {
			return
		}
	}
	checkSeen(t, seen, 10)
}

// lastWrong takes each zone with its parts, their parts and so on out of the others, from the last one on.
func lastWrong(l []api.Zone) (int, api.Errno) {
	for i := len(l) - 1; i >= 0; i-- {
		if _, e := tightened(alone(l, i)); e != api.OK {
			return i, api.OK
		}
	}
	return 0, api.ErrNone
}

// alone returns a zone with its parts, their parts and so on, without the other zones.
func alone(l []api.Zone, top int) []api.Zone {
	var out []api.Zone
	at := map[int]int{}
	tree := below(l, top)
	slices.Sort(tree)
	for n, i := range tree {
		at[i] = n
		z := l[i]
		z.Part = api.NoZone
		if i != top {
			z.Part = at[l[i].Part]
		}
		out = append(out, z)
	}
	return out
}

// P3, P8 and P9.1: each loss of each truth of a zone that is a whole number of litres, and at least 0, is within its own span.
func TestOwnHoldsAllTruths(t *testing.T) {
	r := rand.New(rand.NewSource(5))
	ends := 0
	for range 1000 {
		z := of(anyLitres(r, pick(r, 30, 10_000, api.MaxLitres)), anyLitres(r, pick(r, 30, 10_000)), span(-r.Intn(501), r.Intn(501)), anyLitres(r, pick(r, 1, 30)), -1)
		own, e := zone.Own([]api.Zone{z})
		if e != api.OK {
			t.Fatal("Own", z, "returns", e)
		}
		for range 20 {
			loss := lossOf(between(r, z.In), between(r, z.Meters), between(r, z.Error), between(r, z.Lawful))
			if own[0] != none() && (!isAtLeast(whole(own[0].Hi+1), loss) || own[0].Lo > 0 && !isAtLeast(loss, whole(own[0].Lo-1))) {
				t.Fatal(z, "loses", loss, "and not", own)
			}
			if own[0] == none() && isAtLeast(loss, whole(0)) && floor(loss) == ceiling(loss) {
				t.Fatal(z, "loses", loss, "and not nothing")
			}
		}
		least, greatest := extremes(z)
		for n := range 4 {
			for _, near := range []int{floor(least) + n - 1, ceiling(greatest) - n + 1} {
				is := near >= 0 && isAtLeast(whole(near), least) && isAtLeast(greatest, whole(near))
				if is != (near >= own[0].Lo && near <= own[0].Hi) {
					t.Fatal(z, "has", near, "and not", own)
				}
				if is && (near == own[0].Lo || near == own[0].Hi) {
					ends++
				}
			}
		}
	}
	if ends < 500 {
		t.Error("too few ends", ends)
	}
}

// P3, P8, P9.7: whatever was true, in whole litres, is within the spans, and they add up.
func TestTrueLosses(t *testing.T) {
	r := rand.New(rand.NewSource(6))
	var parts, narrow int
	for range 3000 {
		l, losses := trueZones(r)
		spans, e := zone.Losses(l)
		if e != api.OK {
			t.Fatal("Losses", l, "returns", e, "but", losses, "is true")
		}
		checkWrong(t, l, 0, api.ErrNone)
		for i, s := range spans {
			if losses[i] < s.Lo || losses[i] > s.Hi {
				t.Fatal(l, "truly loses", losses, "and not", spans)
			}
			var sum api.Span
			for _, p := range partsOf(l, i) {
				sum = span(sum.Lo+spans[p].Lo, sum.Hi+spans[p].Hi)
			}
			if len(partsOf(l, i)) > 0 {
				parts++
				if s.Lo < sum.Lo || s.Hi > sum.Hi {
					t.Fatal(l, "loses", spans, "which do not add up at", i)
				}
			}
		}
		if own, _ := zone.Own(l); !slices.Equal(spans, own) {
			narrow++
		}
	}
	if min(parts, narrow) < 1000 {
		t.Error("the zones are too much alike", parts, narrow)
	}
}

// P9.7: each end of a span is reached by a truth, and no truth is beyond it, within the own span.
func TestEndsAreReached(t *testing.T) {
	r := rand.New(rand.NewSource(7))
	var reached, beyond int
	for range 500 {
		l, _ := trueZones(r)
		spans, e := zone.Losses(l)
		if e != api.OK {
			t.Fatal("Losses", l, "returns", e)
		}
		for i, s := range spans {
			own := ownOf(l[i])
			for _, n := range []int{s.Lo - 1, s.Lo, s.Hi, s.Hi + 1} {
				if n < own.Lo || n > own.Hi {
					continue
				}
				only := slices.Clone(l)
				only[i] = loses(n, n, l[i].Part)
				_, e := zone.Wrong(only)
				is := n >= s.Lo && n <= s.Hi
				if is != (e == api.ErrNone) {
					t.Fatal(l, "loses", spans, "but", i, "loses", n, "with", e)
				}
				if is {
					reached++
				} else {
					beyond++
				}
			}
		}
	}
	if min(reached, beyond) < 500 {
		t.Error("the zones are too much alike", reached, beyond)
	}
}

// P9.7: if one zone after the other loses a number of its span, there is always a truth, and one alone is left.
func TestTruthsOfEnds(t *testing.T) {
	r := rand.New(rand.NewSource(8))
	for range 300 {
		l, _ := trueZones(r)
		order := r.Perm(len(l))
		for _, i := range order {
			spans, e := zone.Losses(l)
			if e != api.OK {
				t.Fatal("Losses", l, "returns", e)
			}
			n := pick(r, spans[i].Lo, spans[i].Hi, spans[i].Lo+r.Intn(spans[i].Hi-spans[i].Lo+1))
			l[i] = loses(n, n, l[i].Part)
		}
		spans, e := zone.Losses(l)
		if e != api.OK {
			t.Fatal("Losses", l, "returns", e)
		}
		for i, s := range spans {
			sum := 0
			for _, p := range partsOf(l, i) {
				sum += spans[p].Lo
			}
			if s.Lo != s.Hi || len(partsOf(l, i)) > 0 && sum != s.Lo {
				t.Fatal(l, "loses", spans)
			}
		}
	}
}

// narrower returns a span within another one.
func narrower(r *rand.Rand, s api.Span) api.Span {
	n := s.Lo + r.Intn(s.Hi-s.Lo+1)
	return pick(r, span(s.Lo, n), span(n, s.Hi), just(n))
}

// P9.7: with a narrower In, Meters, Error or Lawful no span is wider.
func TestNarrower(t *testing.T) {
	r := rand.New(rand.NewSource(9))
	changes := []func(z *api.Zone){
		func(z *api.Zone) { z.In = narrower(r, z.In) },
		func(z *api.Zone) { z.Meters = narrower(r, z.Meters) },
		func(z *api.Zone) { z.Error = narrower(r, z.Error) },
		func(z *api.Zone) { z.Lawful = narrower(r, z.Lawful) },
	}
	narrowed := make([]int, len(changes))
	for range 1500 {
		l, _ := trueZones(r)
		before, _ := zone.Losses(l)
		for c, change := range changes {
			less := slices.Clone(l)
			change(&less[r.Intn(len(less))])
			after, e := zone.Losses(less)
			if e == api.ErrState {
				continue
			}
			for i, s := range after {
				if s.Lo < before[i].Lo || s.Hi > before[i].Hi {
					t.Fatal(l, "loses", before, "and", less, "loses", after)
				}
			}
			if !slices.Equal(before, after) {
				narrowed[c]++
			}
		}
	}
	if slices.Min(narrowed) < 50 {
		t.Error("the zones are too much alike", narrowed)
	}
}

// anyOrder returns the order of zones in which each comes after the one that it is a part of.
func anyOrder(r *rand.Rand, l []api.Zone) []int {
	var order []int
	ready := partsOf(l, api.NoZone)
	for len(ready) > 0 {
		k := r.Intn(len(ready))
		i := ready[k]
		order = append(order, i)
		ready = append(slices.Delete(ready, k, k+1), partsOf(l, i)...)
	}
	return order
}

// inOrder returns zones in another order, and where each of them is then.
func inOrder(l []api.Zone, order []int) (turned []api.Zone, at []int) {
	at = make([]int, len(l))
	for n, i := range order {
		at[i] = n
	}
	for _, i := range order {
		z := l[i]
		if z.Part != api.NoZone {
			z.Part = at[z.Part]
		}
		turned = append(turned, z)
	}
	return turned, at
}

func turnedBy[T any](order []int, l []T) []T {
	var out []T
	for _, i := range order {
		if i < len(l) {
			out = append(out, l[i])
		}
	}
	return out
}

// P9.7 and P11: the order of zones makes no difference, as long as each comes after the one it is a part of.
func TestOrder(t *testing.T) {
	r := rand.New(rand.NewSource(10))
	seen, moved, firsts := map[api.Errno]int{}, 0, 0
	for range 3000 {
		l := smallZones(r)
		if r.Intn(2) == 0 {
			l, _ = trueZones(r)
		}
		nights := anyNights(r, len(l), pick(r, 9, api.MaxLitres))
		order := anyOrder(r, l)
		turned, at := inOrder(l, order)
		if !slices.IsSorted(order) {
			moved++
		}
		own, _ := zone.Own(l)
		checkOwn(t, turned, turnedBy(order, own), api.OK)
		losses, e := zone.Losses(l)
		checkLosses(t, turned, turnedBy(order, losses), e)
		leak, _ := zone.Leaks(l, nights)
		turnedNights := turnedBy(order, nights)
		checkLeaks(t, turned, turnedNights, turnedBy(order, leak), api.OK)
		seen[e]++
		if first, e := zone.First(l, nights); e != api.OK || isAlone(l, losses, nights, first) {
			if e == api.OK {
				firsts++
				first = at[first]
			}
			checkFirst(t, turned, turnedNights, first, e)
		}
		_, before := zone.Wrong(l)
		if _, after := zone.Wrong(turned); before != after {
			t.Error("Wrong", l, "returns", before, "and", turned, "returns", after)
		}
		if t.Failed() {
			return
		}
	}
	if min(seen[api.OK], seen[api.ErrState], moved, firsts) < 300 {
		t.Error("the zones are too much alike", seen, moved, firsts)
	}
}

// isAlone reports whether the zone that is searched first is the only one of those that lose as much.
func isAlone(l []api.Zone, losses []api.Span, nights []api.Night, first int) bool {
	known := func(i int) int { return max(losses[i].Lo, min(leaksOf(nights[i]).Lo, losses[i].Hi)) }
	for i := range l {
		if i != first && len(partsOf(l, i)) == 0 && known(i) == known(first) {
			return false
		}
	}
	return true
}

// P3 and P9.4: whatever flows, is used, and leaks for how long, what leaks by night is within its span.
func TestTrueLeaks(t *testing.T) {
	r := rand.New(rand.NewSource(11))
	some := 0
	for range 1000 {
		n := anyNights(r, 1, pick(r, 30, api.MaxLitres))[0]
		spans, e := zone.Leaks([]api.Zone{{Part: api.NoZone}}, []api.Night{n})
		if e != api.OK {
			t.Fatal("Leaks", n, "returns", e)
		}
		for range 10 {
			leak := between(r, n.Flow)
			leak.Sub(leak, between(r, n.Use))
			if leak.Sign() < 0 {
				leak.SetInt64(0)
			}
			leak.Mul(leak, between(r, n.Hours))
			if !isAtLeast(leak, whole(spans[0].Lo)) || !isAtLeast(whole(spans[0].Hi), leak) {
				t.Fatal(n, "leaks", leak, "and not", spans)
			}
			some += leak.Sign()
		}
	}
	if some < 1000 {
		t.Error("too few nights leak", some)
	}
}
