package gear

import (
	"iter"
	"slices"

	"meterworks/api"
)

// trial is a train that is tried. Its pairs are an array, so that copies of it share no memory.
type trial struct {
	pairs [api.MaxPairs]api.Pair
	count int
	idler int
	ratio ratio
}

func (t trial) with(p api.Pair) trial {
	t.pairs[t.count] = p
	t.count++
	t.ratio = ratio{product(t.ratio.drives, p.Drives), product(t.ratio.driven, p.Driven)}
	return t
}

// falls reports whether a pair would come before the last one that the train has.
func (t trial) falls(p api.Pair) bool {
	if t.count == 0 {
		return false
	}
	last := t.pairs[t.count-1]
	return p.Drives < last.Drives || p.Drives == last.Drives && p.Driven < last.Driven
}

func (t trial) train() api.Train {
	return api.Train{Pairs: slices.Clone(t.pairs[:t.count]), Idler: t.idler}
}

// first keeps, of all values that are offered, the first one than which none is better.
type first[T any] struct {
	value  T
	found  bool
	better func(a, b T) bool
}

func (f *first[T]) offer(v T) {
	if !f.found || f.better(v, f.value) {
		f.value, f.found = v, true
	}
}

// pairsOf gives all pairs of kinds in the order in which trains are compared, in stock or not.
func pairsOf(stock []api.Wheel) iter.Seq[api.Pair] {
	return func(yield func(api.Pair) bool) {
		for _, drives := range stock {
			for _, driven := range stock {
				if !yield(api.Pair{Drives: drives.Teeth, Driven: driven.Teeth}) {
					return
				}
			}
		}
	}
}

// search returns the first train of those whose ratio comes nearest.
// It tries the trains in the order in which they come before one another: those with fewer wheels have fewer pairs,
// and of as many pairs none or each has an idler. So nothing is left to try after one that is exact.
func search(stock []api.Wheel, g api.Gearing, exact func(ratio) bool, nearer func(a, b ratio) bool) (trial, bool) {
	best := first[trial]{better: func(a, b trial) bool { return nearer(a.ratio, b.ratio) }}
	s := newShelf(stock)
	var try func(t trial, more int)
	try = func(t trial, more int) {
		if more == 0 {
			if idler, ok := idlerFor(s, t.count, g.Same); ok {
				t.idler = idler
				best.offer(t)
			}
			return
		}
	pairs:
		for p := range pairsOf(stock) {
			switch {
			case best.found && exact(best.value.ratio):
				break pairs
			case t.falls(p) || p.Drives+p.Driven > g.Room:
				continue pairs
			}
			if s.take(p.Drives, p.Driven) {
				try(t.with(p), more-1)
				s.putBack(p.Drives, p.Driven)
			}
		}
	}
	for count := range g.Pairs + 1 {
		try(trial{ratio: ratio{1, 1}}, count)
	}
	return best.value, best.found
}

// idlerFor returns the least idler with which the drum turns the way that is asked for, 0 if it needs none, and whether it can be had.
func idlerFor(s shelf, pairs int, same bool) (idler int, ok bool) {
	if turnsSame(pairs, 0) == same {
		return 0, true
	}
	if pairs == 0 {
		return 0, false
	}
	idler = s.spare()
	return idler, idler != 0
}
