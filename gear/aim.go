package gear

import "meterworks/api"

// ratio is what drives, and what is driven.
type ratio struct{ drives, driven int }

func ratioOf(pairs []api.Pair) ratio {
	var drives, driven []int
	for _, p := range pairs {
		drives = append(drives, p.Drives)
		driven = append(driven, p.Driven)
	}
	return ratio{product(drives...), product(driven...)}
}

func product(factors ...int) int {
	p := 1
	for _, f := range factors {
		p *= f
	}
	return p
}

// aim is what a ratio has to reach: so many turns of the piston are so many rounds of the drum.
type aim struct{ turns, rounds int }

func aimOf(g api.Gearing) aim { return aim{g.Turns, g.Rounds} }

// excess returns the excess of a ratio as a fraction; what it is a part of is above 0.
func (a aim) excess(r ratio) (over, of int) {
	of = product(r.driven, a.rounds)
	return product(r.drives, a.turns) - of, of
}

func (a aim) exact(r ratio) bool {
	over, _ := a.excess(r)
	return over == 0
}

// nearer reports whether the excess of r is nearer to 0 than that of s.
// Both parts of an excess are at most 10^9, so the products do not overflow.
func (a aim) nearer(r, s ratio) bool {
	over, of := a.excess(r)
	over2, of2 := a.excess(s)
	return product(distance(over), of2) < product(distance(over2), of)
}

func (a aim) millionths(r ratio) int {
	over, of := a.excess(r)
	return divideDown(product(over, 1_000_000), of)
}

func distance(n int) int {
	if n < 0 {
		return -n
	}
	return n
}

// divideDown rounds toward the lesser number, where Go's division rounds toward 0; by is above 0.
func divideDown(n, by int) int {
	q := n / by
	if n%by < 0 {
		q--
	}
	return q
}
