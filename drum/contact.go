package drum

import "meterworks/api"

// closings is where a contact closes in a run: how often, and at which numbers at first and at last.
type closings struct{ count, first, last int }

// closingsOf returns where a contact closes from a, itself excluded, on to b. It does not try each number: a run can be long.
func closingsOf(a, b, at int) closings {
	low, high := a+1, b
	if b < a {
		low, high = b, a-1
	}
	least := low + modulo(at-low, roundSize)
	most := high - modulo(high-at, roundSize)
	if least > most {
		return closings{}
	}
	c := closings{(most-least)/roundSize + 1, least, most}
	if b < a {
		c.first, c.last = most, least
	}
	return c
}

// count returns how often a contact closes, and how many of these are bounces.
// In one run it closes at a number only once, so that only the first closing of a run can be a bounce.
func count(r api.Register, runs []int, at int) (all, bounces int) {
	stand, last := r.Start, 0
	for _, run := range runs {
		c := closingsOf(stand, stand+run, at)
		stand += run
		if c.count == 0 {
			continue
		}
		if all > 0 && c.first == last {
			bounces++
		}
		all += c.count
		last = c.last
	}
	return all, bounces
}
