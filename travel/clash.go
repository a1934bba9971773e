package travel

import (
	"cmp"
	"math/bits"

	"meterworks/api"
)

// set is some trips of a round, by bits.
type set uint16

func (s set) size() int { return bits.OnesCount16(uint16(s)) }

// rank is less for the first one, in lexicographic order, of two sets of one size: that which has the first trip that is not in both.
func (s set) rank() int { return -int(bits.Reverse16(uint16(s))) }

func (s set) indices() []int {
	var out []int
	for i := range api.MaxTrips {
		if s&(1<<i) != 0 {
			out = append(out, i)
		}
	}
	return out
}

// inOrder compares two by the first of some keys that differs, the lesser one coming first.
func inOrder[T any](a, b T, keys ...func(T) int) int {
	for _, key := range keys {
		if c := cmp.Compare(key(a), key(b)); c != 0 {
			return c
		}
	}
	return 0
}

// firstClash returns the first one of the smallest sets of trips that a suspicion does not fit together, if it does not fit all trips.
// It tries the sets trip by trip, and leaves a set that comes no earlier than the first one so far, since with a trip more it comes later.
func firstClash(r api.Round, off int) set {
	first, found := set(0), false
	var extend func(s set, t truths, next int)
	extend = func(s set, t truths, next int) {
		for i := next; i < len(r.Trips); i++ {
			more := s | 1<<i
			if found && inOrder(more, first, set.size, set.rank) >= 0 {
				continue
			}
			if left, ok := t.with(r.Trips[i]); ok {
				extend(more, left, i+1)
			} else {
				first, found = more, true
			}
		}
	}
	extend(0, truthsBefore(r, off), 0)
	return first
}
