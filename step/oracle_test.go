package step_test

import (
	"math/rand"
	"slices"

	"meterworks/api"
)

func pick[T any](r *rand.Rand, l ...T) T { return l[r.Intn(len(l))] }

func has(set, street int) bool { return set>>street&1 == 1 }

// truth is what leaks in each street; 0: it does not leak.
type truth [api.MaxStreets]int

func (x truth) set() int {
	set := 0
	for street, leak := range x {
		if leak != 0 {
			set |= 1 << street
		}
	}
	return set
}

// leaking returns the truth in which two streets leak so much, and the others do not.
func leaking(streets, leaks [2]int) truth {
	var x truth
	for i, street := range streets {
		x[street] += leaks[i]
	}
	return x
}

// open returns what leaks in all streets that are not shut in a step.
func (x truth) open(s api.Step) int {
	sum := 0
	for street, leak := range x {
		if !has(s.Shut, street) {
			sum += leak
		}
	}
	return sum
}

// told is what an oracle tells of a test: the sets of streets that leak in some truth, and how much each street leaks in all of them.
type told struct {
	sets []int
	leak map[int]api.Span
}

// add takes a truth into account.
func (x *told) add(one truth) {
	if x.leak == nil {
		x.leak = map[int]api.Span{}
	}
	for street, leak := range one {
		if leak == 0 {
			continue
		}
		s, known := x.leak[street]
		if !known {
			s = just(leak)
		}
		x.leak[street] = span(min(s.Lo, leak), max(s.Hi, leak))
	}
	if !slices.Contains(x.sets, one.set()) {
		x.sets = append(x.sets, one.set())
	}
}

func (x told) can() int {
	out := 0
	for _, set := range x.sets {
		out |= set
	}
	return out
}

func (x told) surely() int {
	out := -1
	for _, set := range x.sets {
		out &= set
	}
	return out
}

// eachTruth tries all truths of at most Leaks streets, of which one leaks what ones tells, and two leak what pairs tells.
func eachTruth(t api.Steps, ones []int, pairs [][2]int, try func(truth)) {
	try(truth{})
	for a := range t.Uses {
		for _, leak := range ones {
			if t.Leaks > 0 {
				try(leaking([2]int{a}, [2]int{leak}))
			}
		}
		for b := range a {
			for _, leaks := range pairs {
				if t.Leaks > 1 {
					try(leaking([2]int{a, b}, leaks))
				}
			}
		}
	}
}

// The first oracle tries all leaks of small tests, and all that can be used.

// smallFlow is the most that flows in small tests. A leak that fits, and is more, is of a street that is always shut: it can be any.
const smallFlow = 12

// sums returns all that can be used in a step, each number of each street by itself.
func sums(t api.Steps, x api.Step) map[int]bool {
	out := map[int]bool{0: true}
	for street, use := range t.Uses {
		if has(x.Shut, street) {
			continue
		}
		more := map[int]bool{}
		for sum := range out {
			for n := use.Lo; n <= use.Hi; n++ {
				more[sum+n] = true
			}
		}
		out = more
	}
	return out
}

// leftOver returns what can leak in a step from all open streets: each number of the Flow, less each that can be used.
func leftOver(t api.Steps, x api.Step) map[int]bool {
	out := map[int]bool{}
	for use := range sums(t, x) {
		for flow := x.Flow.Lo; flow <= x.Flow.Hi; flow++ {
			out[flow-use] = true
		}
	}
	return out
}

func tellSmall(t api.Steps) told {
	var out told
	var left []map[int]bool
	for _, x := range t.Steps {
		left = append(left, leftOver(t, x))
	}
	var ones []int
	var pairs [][2]int
	for leak := t.Least; leak <= max(t.Least, smallFlow+1); leak++ {
		ones = append(ones, leak)
	}
	for _, a := range ones {
		for _, b := range ones {
			pairs = append(pairs, [2]int{a, b})
		}
	}
	eachTruth(t, ones, pairs, func(one truth) {
		for i, x := range t.Steps {
			if !left[i][one.open(x)] {
				return
			}
		}
		out.add(one)
	})
	for street, s := range out.leak {
		if s.Hi > smallFlow {
			out.leak[street] = span(s.Lo, api.MaxLitres)
		}
	}
	return out
}

// The second oracle tries the leaks at which bounds are reached, in tests of any numbers. What is least or greatest is there:
// two streets that leak are bounded by what one of them leaks, and by what both do.

// leftBounds returns what all open streets leak together at least and at most in a step.
func leftBounds(t api.Steps, x api.Step) api.Span {
	s := x.Flow
	for street, use := range t.Uses {
		if !has(x.Shut, street) {
			s = span(s.Lo-use.Hi, s.Hi-use.Lo)
		}
	}
	return s
}

func tell(t api.Steps) told {
	var out told
	reached := []int{t.Least, api.MaxLitres}
	var left []api.Span
	for _, x := range t.Steps {
		s := leftBounds(t, x)
		left = append(left, s)
		reached = append(reached, s.Lo, s.Hi)
	}
	slices.Sort(reached)
	reached = slices.Compact(reached)
	var pairs [][2]int
	for _, a := range reached {
		for _, b := range reached {
			pairs = append(pairs, [2]int{a, b}, [2]int{a, b - a}, [2]int{b - a, a})
		}
	}
	isLeak := func(n int) bool { return n >= t.Least && n <= api.MaxLitres }
	pairs = slices.DeleteFunc(pairs, func(p [2]int) bool { return !isLeak(p[0]) || !isLeak(p[1]) })
	ones := slices.DeleteFunc(reached, func(n int) bool { return !isLeak(n) })
	eachTruth(t, ones, pairs, func(one truth) {
		for i, x := range t.Steps {
			if leak := one.open(x); leak < left[i].Lo || leak > left[i].Hi {
				return
			}
		}
		out.add(one)
	})
	return out
}

// best returns the valve that parts some suspects best, and how many of them are left at most.
func best(can int, valves []int) (valve, left int) {
	left = api.MaxStreets + 1
	for i, v := range valves {
		in, out := 0, 0
		for street := range api.MaxStreets {
			if has(can, street) && has(v, street) {
				in++
			} else if has(can, street) {
				out++
			}
		}
		if max(in, out) < left {
			valve, left = i, max(in, out)
		}
	}
	return valve, left
}

func anySet(r *rand.Rand, count int) int { return r.Intn(1 << count) }

// fewStreets returns a set of few streets.
func fewStreets(r *rand.Rand, count int) int { return anySet(r, count) & anySet(r, count) }

func anyValves(r *rand.Rand, count int) []int {
	var l []int
	for range r.Intn(api.MaxValves + 1) {
		l = append(l, pick(r, anySet(r, count), fewStreets(r, count)))
	}
	return l
}

// made is a test that was made of what truly leaks.
type made struct {
	api.Steps
	leaks truth
}

// leak makes some streets leak, at most so much more than Least.
func (m *made) leak(r *rand.Rand, more int) {
	for range pick(r, m.Leaks, r.Intn(m.Leaks+1)) {
		m.leaks[r.Intn(len(m.Uses))] = m.Least + r.Intn(more+1)
	}
}

// smallTest returns a test of few streets and small numbers, in which not all that was measured need be true.
func smallTest(r *rand.Rand) api.Steps {
	m := made{Steps: api.Steps{Leaks: r.Intn(api.MaxLeaks + 1), Least: 1 + r.Intn(pick(r, 2, 5, smallFlow+4))}}
	for range 1 + r.Intn(4) {
		lo := r.Intn(3)
		m.Uses = append(m.Uses, span(lo, lo+r.Intn(3)))
	}
	m.leak(r, 4)
	for range r.Intn(6) {
		x := m.measured(r, pick(r, 2, smallFlow))
		x.Flow.Hi = min(x.Flow.Hi, smallFlow)
		if x.Flow.Lo > x.Flow.Hi || r.Intn(8) == 0 {
			x.Flow = span(r.Intn(x.Flow.Hi+1), x.Flow.Hi)
		}
		m.Steps.Steps = append(m.Steps.Steps, x)
	}
	return m.Steps
}

// anyTest returns a test of any numbers in which what was measured is true: a number of the use of each street, and what leaks.
func anyTest(r *rand.Rand) made {
	most := pick(r, 100, 10_000, api.MaxLitres/16)
	m := made{Steps: api.Steps{Leaks: r.Intn(api.MaxLeaks + 1), Least: 1 + r.Intn(pick(r, 1, most/4, most))}}
	for range pick(r, api.MaxStreets, 1+r.Intn(api.MaxStreets), 1+r.Intn(4)) {
		m.Uses = append(m.Uses, around(r, r.Intn(most/8+1), pick(r, 0, most/20)))
	}
	m.leak(r, most)
	for range pick(r, api.MaxSteps, r.Intn(api.MaxSteps+1), r.Intn(4)) {
		m.Steps.Steps = append(m.Steps.Steps, m.measured(r, most))
	}
	return m
}

// measured returns a step that is true.
func (m made) measured(r *rand.Rand, most int) api.Step {
	x := api.Step{Shut: pick(r, 0, anySet(r, len(m.Uses)), fewStreets(r, len(m.Uses)))}
	sum := m.leaks.open(x)
	for street, use := range m.Uses {
		if !has(x.Shut, street) {
			sum += use.Lo + r.Intn(use.Hi-use.Lo+1)
		}
	}
	x.Flow = around(r, sum, pick(r, 0, 5, most/20, most))
	return x
}

// around returns a span within 0 to MaxLitres that contains a number.
func around(r *rand.Rand, n, wide int) api.Span {
	return span(max(0, n-r.Intn(wide+1)), min(api.MaxLitres, n+r.Intn(wide+1)))
}
