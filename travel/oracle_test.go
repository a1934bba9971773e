package travel_test

import (
	"math/rand"
	"slices"

	"meterworks/api"
)

func pick[T any](r *rand.Rand, l ...T) T { return l[r.Intn(len(l))] }

// without marks that an end is not there, where the oracles tell spans.
const without = 1 << 40

// endlessSpan is the span of a fault without ends.
func endlessSpan() api.Span { return span(-without, without) }

// The first oracle tries all faults of benches, in rounds of small numbers.

// The limits of small rounds. A bench that is off, and whose meter another bench has tested too, is off by at most 10:
// by Most of that one, and twice an error. A meter that is held has an error of at most 14. So who reaches farther reaches any number.
const (
	smallMost  = 2
	smallFound = 4
	farBench   = 20
	heldMeter  = 15
)

// told is what the first oracle tells of a suspicion: whether it fits, and from where to where all faults can be.
type told struct {
	fits           bool
	benches, meter []api.Span
}

// widen adds to a span what another one contains.
func widen(s *api.Span, lo, hi int, first bool) {
	if first {
		*s = span(lo, hi)
		return
	}
	*s = span(min(s.Lo, lo), max(s.Hi, hi))
}

// held returns the faults of a meter with which it fits its trips, given those of all benches.
func held(r api.Round, faults []int, meter int) api.Span {
	s := endlessSpan()
	for _, x := range r.Trips {
		if x.Meter == meter {
			s = span(max(s.Lo, x.Error.Lo-faults[x.Bench]), min(s.Hi, x.Error.Hi-faults[x.Bench]))
		}
	}
	return s
}

// tell tries all faults that benches of a small round can have.
func tell(r api.Round, off int) told {
	out := told{benches: make([]api.Span, r.Benches), meter: make([]api.Span, r.Meters)}
	faults := make([]int, r.Benches)
	var try func(bench int)
	try = func(bench int) {
		if bench < r.Benches {
			most := r.Most
			if bench == off {
				most = farBench
			}
			for faults[bench] = -most; faults[bench] <= most; faults[bench]++ {
				try(bench + 1)
			}
			return
		}
		spans := make([]api.Span, r.Meters)
		for m := range spans {
			if spans[m] = held(r, faults, m); spans[m].Lo > spans[m].Hi {
				return
			}
		}
		for b, fault := range faults {
			widen(&out.benches[b], fault, fault, !out.fits)
		}
		for m, s := range spans {
			widen(&out.meter[m], s.Lo, s.Hi, !out.fits)
		}
		out.fits = true
	}
	try(0)
	for b, s := range out.benches {
		if s.Hi == farBench || s.Lo == -farBench {
			out.benches[b] = endlessSpan()
		}
	}
	for m, s := range out.meter {
		if s.Hi > heldMeter || s.Lo < -heldMeter {
			out.meter[m] = endlessSpan()
		}
	}
	return out
}

// The second oracle follows each bound from number to number until nothing changes any more.

// bound says that one number is at most so much more than another one. The number 0 is 0 itself, then come the benches,
// then the meters, whose faults have the other sign.
type bound struct{ a, b, most int }

func boundsOf(r api.Round, off int, in func(trip int) bool) []bound {
	var out []bound
	for b := range r.Benches {
		if b != off {
			out = append(out, bound{1 + b, 0, r.Most}, bound{0, 1 + b, r.Most})
		}
	}
	for i, x := range r.Trips {
		if in(i) {
			b, m := 1+x.Bench, 1+r.Benches+x.Meter
			out = append(out, bound{b, m, x.Error.Hi}, bound{m, b, -x.Error.Lo})
		}
	}
	return out
}

func eachTrip(int) bool { return true }

// solve returns numbers that keep all bounds, of which the first one is 0, and whether there are any.
func solve(count int, bounds []bound) (numbers []int, ok bool) {
	numbers = make([]int, count)
	for range count + 1 {
		changed := false
		for _, x := range bounds {
			if most := numbers[x.b] + x.most; numbers[x.a] > most {
				numbers[x.a] = most
				changed = true
			}
		}
		if !changed {
			zero := numbers[0]
			for i := range numbers {
				numbers[i] -= zero
			}
			return numbers, true
		}
	}
	return nil, false
}

// truth is the faults of all benches and meters.
type truth struct{ benches, meters []int }

// solved returns a truth that fits some trips, and keeps some more bounds, and whether there is one.
func solved(r api.Round, off int, in func(trip int) bool, more ...bound) (truth, bool) {
	numbers, ok := solve(1+r.Benches+r.Meters, append(boundsOf(r, off, in), more...))
	if !ok {
		return truth{}, false
	}
	x := truth{benches: numbers[1 : 1+r.Benches]}
	for _, n := range numbers[1+r.Benches:] {
		x.meters = append(x.meters, -n)
	}
	return x, true
}

// isTruth follows the words of the document.
func isTruth(r api.Round, off int, x truth) bool {
	for b, fault := range x.benches {
		if b != off && (fault < -r.Most || fault > r.Most) {
			return false
		}
	}
	for _, trip := range r.Trips {
		if s := x.benches[trip.Bench] + x.meters[trip.Meter]; s < trip.Error.Lo || s > trip.Error.Hi {
			return false
		}
	}
	return true
}

// smallest returns the first of the smallest sets of trips that do not fit, nil if all of them fit.
func smallest(r api.Round, fits func(set []int) bool) []int {
	var set []int
	var try func(next, size int) bool
	try = func(next, size int) bool {
		if len(set) == size {
			return !fits(set)
		}
		for i := next; i < len(r.Trips); i++ {
			set = append(set, i)
			if try(i+1, size) {
				return true
			}
			set = set[:len(set)-1]
		}
		return false
	}
	for size := range len(r.Trips) + 1 {
		if try(0, size) {
			return set
		}
	}
	return nil
}

// only returns a round with some of its trips.
func only(r api.Round, set []int) api.Round {
	out := r
	out.Trips = nil
	for _, i := range set {
		out.Trips = append(out.Trips, r.Trips[i])
	}
	return out
}

// anyRound returns a round with numbers up to most and found.
func anyRound(r *rand.Rand, benches, meters, trips, most, found int) api.Round {
	x := api.Round{Benches: 1 + r.Intn(benches), Meters: 1 + r.Intn(meters), Most: r.Intn(most + 1)}
	for range r.Intn(trips + 1) {
		lo := r.Intn(2*found+1) - found
		hi := min(lo+pick(r, 0, 1, r.Intn(found+1), r.Intn(2*found+1)), found)
		x.Trips = append(x.Trips, api.Trip{Bench: r.Intn(x.Benches), Meter: r.Intn(x.Meters), Error: span(lo, hi)})
	}
	return x
}

// around returns an error span that contains a number, no wider than so much.
func around(r *rand.Rand, n, width int) api.Span {
	return span(max(n-r.Intn(width+1), -api.MaxFound), min(n+r.Intn(width+1), api.MaxFound))
}

// madeRound returns a round whose trips fit a truth with a suspicion, and that truth.
func madeRound(r *rand.Rand) (api.Round, int, truth) {
	size := pick(r, 3, 30, 20_000)
	x := api.Round{Benches: 1 + r.Intn(api.MaxBenches), Meters: 1 + r.Intn(api.MaxMeters), Most: r.Intn(size)}
	off := r.Intn(x.Benches+1) - 1
	var made truth
	for b := range x.Benches {
		most := x.Most
		if b == off {
			most = pick(r, x.Most, 4*size)
		}
		made.benches = append(made.benches, r.Intn(2*most+1)-most)
	}
	for range x.Meters {
		made.meters = append(made.meters, r.Intn(2*size+1)-size)
	}
	for range r.Intn(api.MaxTrips + 1) {
		b, m := r.Intn(x.Benches), r.Intn(x.Meters)
		x.Trips = append(x.Trips, api.Trip{Bench: b, Meter: m, Error: around(r, made.benches[b]+made.meters[m], pick(r, 0, 1, size/2))})
	}
	return x, off, made
}

// nearRound returns a made round in which some trips may have found something else.
func nearRound(r *rand.Rand) api.Round {
	x, _, _ := madeRound(r)
	for i := range x.Trips {
		if r.Intn(5) == 0 {
			by := pick(r, 1, 2, x.Most, 2*x.Most+1) * pick(r, -1, 1)
			s := x.Trips[i].Error
			x.Trips[i].Error = span(min(max(s.Lo+by, -api.MaxFound), api.MaxFound), min(max(s.Hi+by, -api.MaxFound), api.MaxFound))
		}
	}
	return x
}

// suspicionsOf returns all suspicions of a round.
func suspicionsOf(r api.Round) []int {
	out := []int{api.AllRight}
	for b := range r.Benches {
		out = append(out, b)
	}
	return out
}

func has(set []int) func(i int) bool { return func(i int) bool { return slices.Contains(set, i) } }
