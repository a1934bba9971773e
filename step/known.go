package step

import "meterworks/api"

// known is what all truths that fit a test tell: how many sets of streets can be all that leaks, whether the empty one is among them, and of each street, by its number.
type known struct {
	sets    int
	sound   bool
	streets [api.MaxStreets]suspect
}

// suspect is what is known of a street: in how many of the sets it is, and from its least leak to its greatest one in all of them.
type suspect struct {
	sets int
	leak span
}

func (k *known) add(l leaks) {
	k.sets++
	k.sound = k.sound || l.size() == 0
	next := l.streets()
	for street := next(); street != noStreet; street = next() {
		k.streets[street] = k.streets[street].with(l.each[street])
	}
}

func (x suspect) with(leak span) suspect {
	if x.sets > 0 {
		leak = leak.joined(x.leak)
	}
	return suspect{x.sets + 1, leak}
}

// leakInSome reports whether a street leaks in some truth.
func (k *known) leakInSome(street int) bool { return k.streets[street].sets > 0 }

// leakInEach reports whether a street leaks in each truth. There is one.
func (k *known) leakInEach(street int) bool { return k.streets[street].sets == k.sets }
