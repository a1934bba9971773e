package size

import "meterworks/api"

// pair is two sizes by their indices: a small meter, and a great one beside it.
type pair struct{ small, great int }

// cheapest keeps, of all values that are offered, the first one than which none has a lesser price.
type cheapest[T any] struct {
	value T
	price int
	found bool
}

func (c *cheapest[T]) offer(value T, price int) {
	if !c.found || price < c.price {
		c.value, c.price, c.found = value, price, true
	}
}

// cheapestPair offers pairs in the order in which the first one of several is meant.
func (d demand) cheapestPair(l []api.Size) cheapest[pair] {
	var best cheapest[pair]
	enough := d.enough(l...)
	for small, s := range l {
		for _, great := range enough {
			if small < great && hears(d.House, s) && l[great].Start <= s.Full {
				best.offer(pair{small, great}, s.Price+l[great].Price)
			}
		}
	}
	return best
}
