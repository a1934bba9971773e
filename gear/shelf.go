package gear

import "meterworks/api"

// shelf is the stock, and how many wheels were taken from it, by their teeth.
type shelf struct {
	stock []api.Wheel
	taken map[int]int
}

func newShelf(stock []api.Wheel) shelf { return shelf{stock, map[int]int{}} }

func (s shelf) count(teeth int) int {
	for _, w := range s.stock {
		if w.Teeth == teeth {
			return w.Count
		}
	}
	return 0
}

// take takes all the wheels, or none if one of them is lacking.
func (s shelf) take(wheels ...int) bool {
	for i, teeth := range wheels {
		if s.taken[teeth] >= s.count(teeth) {
			s.putBack(wheels[:i]...)
			return false
		}
		s.taken[teeth]++
	}
	return true
}

func (s shelf) putBack(wheels ...int) {
	for _, teeth := range wheels {
		s.taken[teeth]--
	}
}

// spare returns the least wheel that has not been taken, or 0 if there is none.
func (s shelf) spare() int {
	for _, w := range s.stock {
		if s.taken[w.Teeth] < w.Count {
			return w.Teeth
		}
	}
	return 0
}
