package step

import (
	"iter"
	"math/bits"

	"meterworks/api"
)

// set is a set of streets, by bits.
type set int

// noStreet is in the place of a street that there is not.
const noStreet = -1

// first returns the set of the first streets, so many of them.
func first(count int) set { return set(1)<<count - 1 }

// just returns the set of one street.
func just(street int) set { return set(1) << street }

func (s set) size() int { return bits.OnesCount(uint(s)) }

// streets returns a function that gives one street of a set after the other, rising, and noStreet after the last one.
func (s set) streets() (next func() int) {
	left := s
	return func() int {
		if left == 0 {
			return noStreet
		}
		street := bits.TrailingZeros(uint(left))
		left &^= just(street)
		return street
	}
}

// parts gives all sets that are in a set: itself, and so on to the empty one.
func (s set) parts() iter.Seq[set] {
	return func(yield func(set) bool) {
		for part := s; yield(part) && part != 0; {
			part = (part - 1) & s
		}
	}
}

// greaterPart returns how many streets are in the greater one of two parts of a set: what is in another set, and what is not.
func (s set) greaterPart(by set) int { return max((s & by).size(), (s &^ by).size()) }

// streetsThat returns the set of all streets of which something is so.
func streetsThat(is func(street int) bool) set {
	var s set
	for street := range api.MaxStreets {
		if is(street) {
			s |= just(street)
		}
	}
	return s
}
