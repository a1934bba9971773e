package size

import (
	"iter"

	"meterworks/api"
)

// demand is what a house asks of its meter: what each set of its taps takes and needs that can be open together.
type demand struct {
	api.House
	loads loads
}

func demandOf(h api.House) demand {
	d := demand{h, loads{}}
	for set := range d.sets() {
		d.loads[set] = set.load(h.Taps)
	}
	return d
}

// sets gives all sets that can be open together, by their numbers, from the empty one on.
func (d demand) sets() iter.Seq[tapSet] {
	return func(yield func(tapSet) bool) {
		for set := range tapSet(1) << len(d.Taps) {
			if set.keeps(d.Rules...) && !yield(set) {
				return
			}
		}
	}
}

// greatest returns the greatest flow of all sets, and the first set that has it.
func (d demand) greatest(flow func(tapSet, loads) int) (greatest int, first tapSet) {
	for set := range d.sets() {
		if f := flow(set, d.loads); f > greatest {
			greatest, first = f, set
		}
	}
	return greatest, first
}

// finding is what was found of a set with a size: what starves it. It is all false if nothing does.
type finding struct{ byFlow, byPressure bool }

// find looks at a set with a size. The empty set, which takes and needs nothing, is never starved.
// Both products are at most 10^16, so that they do not overflow.
func (d demand) find(set tapSet, s api.Size) finding {
	flow := set.most(d.loads)
	if flow > s.Full {
		return finding{byFlow: true}
	}
	left := d.Head - set.need(d.loads)
	return finding{byPressure: left*s.Full*s.Full < s.Loss*flow*flow}
}

// enough returns the indices of the sizes that starve no set.
func (d demand) enough(l ...api.Size) []int {
	var out []int
sizes:
	for i, s := range l {
		for set := range d.sets() {
			if d.find(set, s) != (finding{}) {
				continue sizes
			}
		}
		out = append(out, i)
	}
	return out
}

// hears reports whether a size hears the drip of a house.
func hears(h api.House, s api.Size) bool { return s.Start <= h.Drip }
