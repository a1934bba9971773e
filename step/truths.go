package step

import (
	"iter"

	"meterworks/api"
)

// test is a step test that is valid.
type test api.Steps

// leaks is what a set of streets can leak, if no others do: each of them, by its number.
type leaks struct {
	set
	each [api.MaxStreets]span
}

// sets gives all sets of streets that may leak, by their numbers, from the empty one on.
func (t test) sets() iter.Seq[set] {
	return func(yield func(set) bool) {
		for s := range first(len(t.Uses)) + 1 {
			if s.size() <= t.Leaks && !yield(s) {
				return
			}
		}
	}
}

// lost returns what can leak in a step from all streets that are not shut: what flows in, less what is used.
func (t test) lost(x api.Step) span {
	var used span
	next := (first(len(t.Uses)) &^ set(x.Shut)).streets()
	for street := next(); street != noStreet; street = next() {
		used = used.plus(span(t.Uses[street]))
	}
	return span(x.Flow).less(used)
}

// stepsWith returns the steps in which, of a set, just the streets of a part are not shut.
func (t test) stepsWith(part, of set) []api.Step {
	var l []api.Step
	for _, x := range t.Steps {
		if of&^set(x.Shut) == part {
			l = append(l, x)
		}
	}
	return l
}

// together returns what the streets of a part of a set that leaks can leak together, by the steps in which just they of the set are not shut.
func (t test) together(part, of set) span {
	n := part.size()
	return cut(span{Lo: n * t.Least, Hi: n * api.MaxLitres}, t.lost, t.stepsWith(part, of)...)
}

// leaksOf returns what each street of a set can leak. No span of a part of it may be empty.
// What the others leave of all is just what a street can leak, since at most two streets leak, so that the others are one, or none.
func (t test) leaksOf(s set) leaks {
	l := leaks{set: s}
	next := l.streets()
	for street := next(); street != noStreet; street = next() {
		others := s &^ just(street)
		l.each[street] = cut(t.together(just(street), s), t.together(s, s).less, t.together(others, s))
	}
	return l
}

// learn tries all sets of streets, and returns what is known by those that can be all that leaks.
func (t test) learn() known {
	var k known
sets:
	for s := range t.sets() {
		for part := range s.parts() {
			if t.together(part, s).isEmpty() {
				continue sets
			}
		}
		l := t.leaksOf(s)
		next := l.streets()
		for street := next(); street != noStreet; street = next() {
			if l.each[street].isEmpty() {
				continue sets
			}
		}
		k.add(l)
	}
	return k
}
