package step_test

import (
	"math/rand"
	"slices"
	"testing"

	"meterworks/api"
	"meterworks/step"
)

// counts says how often what was seen.
type counts map[string]int

func (c counts) see(what string, is bool) {
	if is {
		c[what]++
	}
}

// check checks that all was seen often enough.
func (c counts) check(t *testing.T, least int, all ...string) {
	t.Helper()
	for _, what := range all {
		if c[what] < least {
			t.Error("the tests are too much alike:", what, c)
		}
	}
}

// checkTold checks all functions against what an oracle tells.
func checkTold(t *testing.T, s api.Steps, valves []int, x told, seen counts) {
	t.Helper()
	seen.see("no truth", len(x.sets) == 0)
	if len(x.sets) == 0 {
		checkNothing(t, s)
		checkNext(t, s, valves, 0, 0, api.ErrState)
		return
	}
	checkStreets(t, s, x.leak, x.surely())
	sound := slices.Contains(x.sets, 0)
	checkSound(t, s, sound, api.OK)
	if len(x.leak) < 2 || len(valves) == 0 {
		checkNext(t, s, valves, 0, 0, api.ErrNone)
	} else {
		valve, left := best(x.can(), valves)
		checkNext(t, s, valves, valve, left, api.OK)
		seen.see("a later valve", valve > 0)
	}
	seen.see("sound", sound && len(x.leak) == 0)
	seen.see("perhaps sound", sound && len(x.leak) > 0)
	seen.see("surely one", !sound && x.surely() != 0)
	seen.see("surely two", slices.Equal(x.sets, []int{x.can()}) && len(x.leak) == 2)
	seen.see("surely one, and others can", x.surely() != 0 && len(x.leak) > 2)
	seen.see("none surely", !sound && x.surely() == 0)
}

var allKinds = []string{"no truth", "a later valve", "sound", "perhaps sound", "surely one", "surely two", "surely one, and others can", "none surely"}

// P10.1 to P10.4: against all truths of small tests.
func TestSmallTests(t *testing.T) {
	r := rand.New(rand.NewSource(2))
	seen := counts{}
	for range 30_000 {
		s := smallTest(r)
		checkTold(t, s, anyValves(r, len(s.Uses)), tellSmall(s), seen)
		if t.Failed() {
			return
		}
	}
	seen.check(t, 50, allKinds...)
}

// Both oracles tell the same of small tests.
func TestOracles(t *testing.T) {
	r := rand.New(rand.NewSource(3))
	for range 3000 {
		s := smallTest(r)
		a, b := tellSmall(s), tell(s)
		if !slices.Equal(sorted(a.sets), sorted(b.sets)) {
			t.Fatal("the sets of", s, "are", a.sets, b.sets)
		}
		for street := range s.Uses {
			if a.leak[street] != b.leak[street] {
				t.Fatal("the leaks of", s, "are", a.leak, b.leak)
			}
		}
	}
}

func sorted(l []int) []int { return slices.Sorted(slices.Values(l)) }

// P10.1 to P10.4: against all ends of truths in tests of any numbers, some of which are not true.
func TestAnyTests(t *testing.T) {
	r := rand.New(rand.NewSource(4))
	seen := counts{}
	for range 2000 {
		m := anyTest(r)
		if len(m.Steps.Steps) > 0 && r.Intn(4) == 0 {
			x := &m.Steps.Steps[r.Intn(len(m.Steps.Steps))]
			x.Flow = around(r, r.Intn(x.Flow.Hi+1), 10)
		}
		checkTold(t, m.Steps, anyValves(r, len(m.Uses)), tell(m.Steps), seen)
		if t.Failed() {
			return
		}
	}
	seen.check(t, 10, allKinds...)
}

// P3, P8 and P10.6: what truly leaks is a suspect, and leaks within what is told; and who surely leaks does.
func TestTruths(t *testing.T) {
	r := rand.New(rand.NewSource(5))
	seen := counts{}
	for range 6000 {
		m := anyTest(r)
		can, surely, e := step.Suspects(m.Steps)
		set := m.leaks.set()
		if e != api.OK || set&^can != 0 || surely&^set != 0 {
			t.Fatal("Suspects", m, "is", can, surely, e)
		}
		for street, leak := range m.leaks {
			if leak == 0 {
				continue
			}
			s, e := step.Leak(m.Steps, street)
			if e != api.OK || leak < s.Lo || leak > s.Hi {
				t.Fatal("Leak", m, street, "is", s, e)
			}
			seen.see("a narrow leak", s.Lo > m.Least && s.Hi < api.MaxLitres)
		}
		sound, e := step.Sound(m.Steps)
		if e != api.OK || set == 0 && !sound || sound && surely != 0 {
			t.Fatal("Sound", m, "is", sound, e)
		}
		seen.see("sound", set == 0)
		seen.see("surely all", set != 0 && surely == set)
		seen.see("no others", set != 0 && can == set)
		seen.see("others", can&^set != 0)
	}
	seen.check(t, 100, "a narrow leak", "sound", "surely all", "no others", "others")
}

// P10.6: with a step more no more streets are suspects, no fewer surely leak, and none leaks more, or less.
func TestOneStepMore(t *testing.T) {
	r := rand.New(rand.NewSource(6))
	seen := counts{}
	for range 6000 {
		m := anyTest(r)
		steps := m.Steps.Steps
		if len(steps) == 0 {
			continue
		}
		fewer := m.Steps
		fewer.Steps = slices.Delete(slices.Clone(steps), len(steps)-1, len(steps))
		wasCan, wasSurely, _ := step.Suspects(fewer)
		can, surely, e := step.Suspects(m.Steps)
		if e != api.OK || can&^wasCan != 0 || wasSurely&^surely != 0 {
			t.Fatal("Suspects", m, "is", can, surely, e, "and with a step less", wasCan, wasSurely)
		}
		for street := range m.Uses {
			now, e := step.Leak(m.Steps, street)
			was, f := step.Leak(fewer, street)
			if e == api.OK && (f != api.OK || now.Lo < was.Lo || now.Hi > was.Hi) {
				t.Fatal("Leak", m, street, "is", now, e, "and with a step less", was, f)
			}
		}
		seen.see("no more suspects", can != wasCan)
		seen.see("more surely leak", surely != wasSurely)
	}
	seen.check(t, 100, "no more suspects", "more surely leak")
}

// P10.6: with more Leaks, or a lesser Least, no fewer streets are suspects.
func TestMoreLeaks(t *testing.T) {
	r := rand.New(rand.NewSource(7))
	seen := counts{}
	for range 6000 {
		m := anyTest(r)
		m.Leaks = r.Intn(api.MaxLeaks)
		was, _, e := step.Suspects(m.Steps)
		more := m.Steps
		more.Leaks++
		can, _, f := step.Suspects(more)
		if was&^can != 0 || e == api.OK && f != api.OK {
			t.Fatal("Suspects", m, "is", was, e, "and with more Leaks", can, f)
		}
		seen.see("more Leaks", was != can)
		lesser := m.Steps
		lesser.Least = 1 + r.Intn(m.Least)
		can, _, f = step.Suspects(lesser)
		if was&^can != 0 || e == api.OK && f != api.OK {
			t.Fatal("Suspects", m, "is", was, e, "and with a lesser Least", can, f)
		}
		seen.see("a lesser Least", was != can)
	}
	seen.check(t, 100, "more Leaks", "a lesser Least")
}

// turned returns a set whose streets have other numbers.
func turned(set int, to []int) int {
	out := 0
	for street, other := range to {
		if has(set, street) {
			out |= 1 << other
		}
	}
	return out
}

// P10.6 and P11: the order of the steps makes no difference, nor does that of the streets, if all sets are turned with them.
func TestOrder(t *testing.T) {
	r := rand.New(rand.NewSource(8))
	for range 3000 {
		s := pick(r, anyTest(r).Steps, smallTest(r))
		valves := anyValves(r, len(s.Uses))
		to := r.Perm(len(s.Uses))
		other := s
		other.Uses, other.Steps = make([]api.Span, len(s.Uses)), make([]api.Step, len(s.Steps))
		for street, use := range s.Uses {
			other.Uses[to[street]] = use
		}
		for i, k := range r.Perm(len(s.Steps)) {
			other.Steps[k] = api.Step{Shut: turned(s.Steps[i].Shut, to), Flow: s.Steps[i].Flow}
		}
		var otherValves []int
		for _, v := range valves {
			otherValves = append(otherValves, turned(v, to))
		}
		can, surely, e := step.Suspects(s)
		checkSuspects(t, other, turned(can, to), turned(surely, to), e)
		sound, e := step.Sound(s)
		checkSound(t, other, sound, e)
		valve, left, e := step.Next(s, valves)
		checkNext(t, other, otherValves, valve, left, e)
		for street := range s.Uses {
			leak, e := step.Leak(s, street)
			checkLeak(t, other, to[street], leak, e)
		}
		if t.Failed() {
			return
		}
	}
}

// P10.4: whichever streets leak, no more suspects are left than are told, if just one street leaks.
func TestNextLeavesNoMore(t *testing.T) {
	r := rand.New(rand.NewSource(9))
	for range 3000 {
		m := anyTest(r)
		valves := anyValves(r, len(m.Uses))
		valve, left, e := step.Next(m.Steps, valves)
		if e != api.OK {
			continue
		}
		can, _, _ := step.Suspects(m.Steps)
		for street := range m.Uses {
			part := can &^ valves[valve]
			if has(valves[valve], street) {
				part = can & valves[valve]
			}
			if n := len(streetsOf(part)); n > left {
				t.Fatal("Next", m, valves, "is", valve, left, "and leaves", n)
			}
		}
	}
}

func streetsOf(set int) []int {
	var l []int
	for street := range api.MaxStreets {
		if has(set, street) {
			l = append(l, street)
		}
	}
	return l
}
