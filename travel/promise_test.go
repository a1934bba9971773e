package travel_test

import (
	"math/rand"
	"slices"
	"testing"

	"meterworks/api"
	"meterworks/travel"
)

// ended is a fault that was asked for: ErrNone is told as a span without ends.
func ended(s api.Span, e api.Errno) (api.Span, api.Errno) {
	if e == api.ErrNone && s == (api.Span{}) {
		return endlessSpan(), api.OK
	}
	return s, e
}

// faultsOf returns all faults of benches, then those of meters, of a suspicion that fits.
func faultsOf(t *testing.T, r api.Round, off int) []api.Span {
	t.Helper()
	var out []api.Span
	for b := range r.Benches {
		s, e := ended(travel.Fault(r, off, b))
		if e != api.OK {
			t.Error("Fault", r, off, b, "returns", e)
		}
		out = append(out, s)
	}
	for m := range r.Meters {
		s, e := ended(travel.Error(r, off, m))
		if e != api.OK {
			t.Error("Error", r, off, m, "returns", e)
		}
		out = append(out, s)
	}
	return out
}

func fits(t *testing.T, r api.Round, off int) bool {
	t.Helper()
	is, e := travel.Fits(r, off)
	if e != api.OK {
		t.Error("Fits", r, off, "returns", e)
	}
	return is
}

// verdict is what Convict has to return if these suspicions fit, AllRight first.
func verdict(fit []int) (int, api.Errno) {
	switch {
	case len(fit) == 0:
		return 0, api.ErrRefuse
	case fit[0] == api.AllRight:
		return 0, api.ErrNone
	case len(fit) > 1:
		return 0, api.ErrDoubt
	}
	return fit[0], api.OK
}

// P5.1 to P5.5: against all faults that benches can have, in rounds of small numbers.
func TestAgainstAllFaults(t *testing.T) {
	r := rand.New(rand.NewSource(1))
	seen := map[api.Errno]int{}
	sizes := map[int]int{}
	for range 4000 {
		x := anyRound(r, 3, 3, 7, smallMost, pick(r, 1, 2, smallFound))
		var fit []int
		for _, off := range suspicionsOf(x) {
			all := tell(x, off)
			checkFits(t, "small", x, off, all.fits, api.OK)
			set := smallest(x, func(set []int) bool { return tell(only(x, set), off).fits })
			sizes[len(set)]++
			if !all.fits {
				checkClash(t, "small", x, off, set, api.OK)
				checkFault(t, "small", x, off, 0, api.Span{}, api.ErrState)
				checkError(t, "small", x, off, 0, api.Span{}, api.ErrState)
				continue
			}
			fit = append(fit, off)
			checkClash(t, "small", x, off, nil, api.ErrNone)
			if got := faultsOf(t, x, off); !slices.Equal(got, append(all.benches, all.meter...)) {
				t.Error("Fault and Error", x, off, "are", got, "and not", all)
			}
		}
		bench, e := verdict(fit)
		seen[e]++
		checkConvict(t, "small", x, bench, e)
		if t.Failed() {
			return
		}
	}
	if min(seen[api.OK], seen[api.ErrNone], seen[api.ErrRefuse], seen[api.ErrDoubt]) < 20 {
		t.Error("the rounds are too much alike", seen)
	}
	if min(sizes[0], sizes[2], sizes[4]) < 10 {
		t.Error("the clashes are too much alike", sizes)
	}
}

// reaches reports whether a number can be just so much.
func reaches(r api.Round, off, number, n int) bool {
	x, ok := solved(r, off, eachTrip, bound{number, 0, n}, bound{0, number, -n})
	return ok && isTruth(r, off, x)
}

// checkEnds checks that the ends of a fault are reached, and that nothing beyond them is. That of a meter has the other sign.
func checkEnds(t *testing.T, r api.Round, off, number, sign int, s api.Span) {
	t.Helper()
	if s == endlessSpan() {
		if !reaches(r, off, number, 1_000_000_000) && !reaches(r, off, number, -1_000_000_000) {
			t.Error(r, off, number, "has an end")
		}
		return
	}
	_, lower := solved(r, off, eachTrip, bound{number, 0, min(sign*(s.Lo-1), sign*(s.Hi+1))})
	_, higher := solved(r, off, eachTrip, bound{0, number, -max(sign*(s.Lo-1), sign*(s.Hi+1))})
	if !reaches(r, off, number, sign*s.Lo) || !reaches(r, off, number, sign*s.Hi) || lower || higher {
		t.Error(r, off, number, "is not just", s)
	}
}

// P5.1 to P5.4: against bounds that are followed from number to number, in rounds of any numbers.
func TestAgainstBounds(t *testing.T) {
	r := rand.New(rand.NewSource(2))
	seen := map[api.Errno]int{}
	for range 1500 {
		x := nearRound(r)
		if r.Intn(3) == 0 {
			x = anyRound(r, api.MaxBenches, api.MaxMeters, api.MaxTrips, api.MaxFound, api.MaxFound)
		}
		var fit []int
		for _, off := range suspicionsOf(x) {
			one, ok := solved(x, off, eachTrip)
			checkFits(t, "any", x, off, ok, api.OK)
			if !ok {
				continue
			}
			if !isTruth(x, off, one) {
				t.Fatal("the oracle is wrong", x, off, one)
			}
			fit = append(fit, off)
			for i, s := range faultsOf(t, x, off) {
				sign := 1
				if i >= x.Benches {
					sign = -1
				}
				checkEnds(t, x, off, 1+i, sign, s)
			}
		}
		bench, e := verdict(fit)
		seen[e]++
		checkConvict(t, "any", x, bench, e)
		if t.Failed() {
			return
		}
	}
	if min(seen[api.OK], seen[api.ErrNone], seen[api.ErrRefuse], seen[api.ErrDoubt]) < 30 {
		t.Error("the rounds are too much alike", seen)
	}
}

// P5.5: against all sets of trips, in rounds of any numbers.
func TestAgainstAllSets(t *testing.T) {
	r := rand.New(rand.NewSource(3))
	sizes := map[int]int{}
	for range 3000 {
		x := nearRound(r)
		off := r.Intn(x.Benches+1) - 1
		set := smallest(x, func(set []int) bool {
			_, ok := solved(x, off, has(set))
			return ok
		})
		sizes[len(set)]++
		if set == nil {
			checkClash(t, "all sets", x, off, nil, api.ErrNone)
		} else {
			checkClash(t, "all sets", x, off, set, api.OK)
		}
		if t.Failed() {
			return
		}
	}
	if min(sizes[0], sizes[2], sizes[4]) < 50 || sizes[6] == 0 {
		t.Error("the clashes are too much alike", sizes)
	}
}

// P5.7: if at most one bench is off, its suspicion fits, what is told is so, and no other bench is convicted.
func TestWhateverIsTrue(t *testing.T) {
	r := rand.New(rand.NewSource(4))
	convicted := 0
	for range 5000 {
		x, off, made := madeRound(r)
		checkFits(t, "made", x, off, true, api.OK)
		checkClash(t, "made", x, off, nil, api.ErrNone)
		told := faultsOf(t, x, off)
		for i, n := range append(slices.Clone(made.benches), made.meters...) {
			if n < told[i].Lo || n > told[i].Hi {
				t.Error(x, off, made, "is not within", told)
			}
		}
		bench, e := travel.Convict(x)
		if e == api.OK {
			convicted++
		}
		if e == api.OK && (bench != off || off == api.AllRight) || e == api.ErrRefuse {
			t.Error(x, off, made, "but Convict returns", bench, e)
		}
		if t.Failed() {
			return
		}
	}
	if convicted < 100 {
		t.Error("too few benches are convicted", convicted)
	}
}

// P5.7: if AllRight fits, each suspicion does.
func TestAllRightAllowsEachSuspicion(t *testing.T) {
	r := rand.New(rand.NewSource(5))
	right := 0
	for range 3000 {
		x := nearRound(r)
		if !fits(t, x, api.AllRight) {
			continue
		}
		right++
		for off := range x.Benches {
			checkFits(t, "AllRight fits", x, off, true, api.OK)
		}
	}
	if right < 300 {
		t.Error("AllRight fits too few rounds", right)
	}
}

// checkNarrower checks that what fits the narrower round fits the wider one, too, with spans that are no narrower.
func checkNarrower(t *testing.T, narrow, wide api.Round) {
	t.Helper()
	for _, off := range suspicionsOf(narrow) {
		if !fits(t, narrow, off) {
			continue
		}
		if !fits(t, wide, off) {
			t.Error(off, "fits", narrow, "and not", wide)
			continue
		}
		less, more := faultsOf(t, narrow, off), faultsOf(t, wide, off)
		for i := range less {
			if less[i].Lo < more[i].Lo || less[i].Hi > more[i].Hi {
				t.Error(off, narrow, wide, "have", less, more)
			}
		}
	}
}

// P5.7: with a trip more no more suspicions fit, and no span is wider; with a greater Most no fewer, and none is narrower.
func TestMoreIsNarrower(t *testing.T) {
	r := rand.New(rand.NewSource(6))
	for range 500 {
		x := nearRound(r)
		for i := range x.Trips {
			fewer := x
			fewer.Trips = slices.Delete(slices.Clone(x.Trips), i, i+1)
			checkNarrower(t, x, fewer)
		}
		more := x
		more.Most += pick(r, 1, x.Most, api.MaxFound)
		more.Most = min(more.Most, api.MaxFound)
		checkNarrower(t, x, more)
		if t.Failed() {
			return
		}
	}
}

// P5.7 and P11: the order of the trips makes no difference, but for which of the smallest sets comes first.
func TestOrderOfTrips(t *testing.T) {
	r := rand.New(rand.NewSource(7))
	for range 1500 {
		x := nearRound(r)
		turned := x
		turned.Trips = slices.Clone(x.Trips)
		r.Shuffle(len(turned.Trips), func(i, k int) { turned.Trips[i], turned.Trips[k] = turned.Trips[k], turned.Trips[i] })
		bench, e := travel.Convict(x)
		checkConvict(t, "turned", turned, bench, e)
		for _, off := range suspicionsOf(x) {
			is := fits(t, x, off)
			checkFits(t, "turned", turned, off, is, api.OK)
			if is {
				if one, two := faultsOf(t, x, off), faultsOf(t, turned, off); !slices.Equal(one, two) {
					t.Error(x, turned, off, "have", one, two)
				}
				continue
			}
			one, _ := travel.Clash(x, off)
			two, _ := travel.Clash(turned, off)
			if len(one) != len(two) || len(one) == 0 {
				t.Error(x, turned, off, "clash by", one, two)
			}
		}
		if t.Failed() {
			return
		}
	}
}

// P5.7 and P11: nor does the order of benches and meters.
func TestOrderOfBenchesAndMeters(t *testing.T) {
	r := rand.New(rand.NewSource(8))
	for range 1500 {
		x := nearRound(r)
		benches, meters := r.Perm(x.Benches), r.Perm(x.Meters)
		turned := x
		turned.Trips = slices.Clone(x.Trips)
		for i, trip := range x.Trips {
			turned.Trips[i].Bench, turned.Trips[i].Meter = benches[trip.Bench], meters[trip.Meter]
		}
		bench, e := travel.Convict(x)
		if e == api.OK {
			bench = benches[bench]
		}
		checkConvict(t, "turned", turned, bench, e)
		for _, off := range suspicionsOf(x) {
			other := off
			if off != api.AllRight {
				other = benches[off]
			}
			clash, e := travel.Clash(x, off)
			checkClash(t, "turned", turned, other, clash, e)
			for b := range benches {
				s, e := travel.Fault(x, off, b)
				checkFault(t, "turned", turned, other, benches[b], s, e)
			}
			for m := range meters {
				s, e := travel.Error(x, off, m)
				checkError(t, "turned", turned, other, meters[m], s, e)
			}
		}
		if t.Failed() {
			return
		}
	}
}
