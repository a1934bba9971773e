package card

// days is a number of days, and litres is what a meter shows.
type (
	days   int
	litres int
)

// bounds are the numbers from the least one to the greatest one. There is none of them if the greatest is less than the least.
type bounds[N days | litres] struct{ least, greatest N }

func (b bounds[N]) isEmpty() bool { return b.greatest < b.least }

func (b bounds[N]) has(n N) bool { return n >= b.least && n <= b.greatest }

// cut returns what both have in common.
func (b bounds[N]) cut(o bounds[N]) bounds[N] {
	return bounds[N]{max(b.least, o.least), min(b.greatest, o.greatest)}
}

// narrowed returns the numbers from the first one that is allowed to the last one.
func (b bounds[N]) narrowed(isAllowed func(N) bool) bounds[N] {
	for !b.isEmpty() && !isAllowed(b.least) {
		b.least++
	}
	for !b.isEmpty() && !isAllowed(b.greatest) {
		b.greatest--
	}
	return b
}
