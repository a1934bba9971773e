package sound_test

import (
	"math/big"
	"math/rand"
	"slices"

	"meterworks/api"
)

func pick[T any](r *rand.Rand, l ...T) T { return l[r.Intn(len(l))] }

func total(l []api.Pipe) int {
	sum := 0
	for _, p := range l {
		sum += p.Length
	}
	return sum
}

// on returns how many decimetres of each pipe are on the way between two places.
func on(l []api.Pipe, a, b int) []int {
	out := make([]int, len(l))
	begin := 0
	for i, p := range l {
		end := begin + p.Length
		out[i] = max(0, min(end, max(a, b))-max(begin, min(a, b)))
		begin = end
	}
	return out
}

// counts returns how often the number of each pipe counts in the lag of a noise, by the words of the document.
func counts(l []api.Pipe, from, to, at int) []int {
	out := on(l, at, from)
	for i, n := range on(l, at, to) {
		out[i] -= n
	}
	return out
}

// truthsOf gives all truths in which each pipe has one of some whole numbers.
func truthsOf(l []api.Pipe, numbers func(slow api.Span) []int) [][]int {
	out := [][]int{{}}
	for _, p := range l {
		var longer [][]int
		for _, x := range out {
			for _, n := range numbers(p.Slow) {
				longer = append(longer, append(slices.Clone(x), n))
			}
		}
		out = longer
	}
	return out
}

// corners gives all truths in which each pipe has one of both ends of its Slow.
func corners(l []api.Pipe) [][]int {
	return truthsOf(l, func(slow api.Span) []int { return []int{slow.Lo, slow.Hi} })
}

// wholes gives all truths of whole numbers.
func wholes(l []api.Pipe) [][]int {
	return truthsOf(l, func(slow api.Span) []int {
		var all []int
		for n := slow.Lo; n <= slow.Hi; n++ {
			all = append(all, n)
		}
		return all
	})
}

func lagOf(counts, numbers []int) int {
	sum := 0
	for i, n := range counts {
		sum += n * numbers[i]
	}
	return sum
}

// ends returns the truths with the least lag and with the greatest one.
func ends(counts []int, truths [][]int) (least, greatest []int) {
	least, greatest = truths[0], truths[0]
	for _, x := range truths {
		if lagOf(counts, x) < lagOf(counts, least) {
			least = x
		}
		if lagOf(counts, x) > lagOf(counts, greatest) {
			greatest = x
		}
	}
	return least, greatest
}

func lagsOf(counts []int, truths [][]int) api.Span {
	least, greatest := ends(counts, truths)
	return span(lagOf(counts, least), lagOf(counts, greatest))
}

// allows reports whether a hearing allows a place: between the least lag and the greatest one there is each number.
func allows(l []api.Pipe, h api.Hearing, at int, truths [][]int) bool {
	lags := lagsOf(counts(l, h.From, h.To, at), truths)
	return lags.Lo <= h.Lag.Hi && lags.Hi >= h.Lag.Lo
}

func allAllow(l []api.Pipe, hearings []api.Hearing, at int, truths [][]int) bool {
	for _, h := range hearings {
		if !allows(l, h, at, truths) {
			return false
		}
	}
	return true
}

// where asks of each place of each pipe whether all hearings allow it.
func where(l []api.Pipe, hearings []api.Hearing, truths [][]int) ([]api.Stretch, api.Errno) {
	var out []api.Stretch
	begin := 0
	for i, p := range l {
		s := stretch(i, -1, -1)
		for n := 0; n <= p.Length; n++ {
			if !allAllow(l, hearings, begin+n, truths) {
				continue
			}
			if s.From < 0 {
				s.From = n
			}
			s.To = n
		}
		if s.From >= 0 {
			out = append(out, s)
		}
		begin += p.Length
	}
	if out == nil {
		return nil, api.ErrNone
	}
	return out, api.OK
}

// real is a truth: any number for each pipe.
type real []*big.Rat

// between returns the truth that is so far on the way from one to another.
func between(a, b []int, far *big.Rat) real {
	var out real
	for i := range a {
		n := new(big.Rat).SetInt64(int64(b[i] - a[i]))
		out = append(out, n.Add(n.Mul(n, far), new(big.Rat).SetInt64(int64(a[i]))))
	}
	return out
}

// isOf reports whether the numbers of a truth are those of the pipes.
func (x real) isOf(l []api.Pipe) bool {
	for i, n := range x {
		if !isWithin(n, l[i].Slow) {
			return false
		}
	}
	return len(x) == len(l)
}

func isWithin(n *big.Rat, s api.Span) bool {
	return n.Cmp(new(big.Rat).SetInt64(int64(s.Lo))) >= 0 && n.Cmp(new(big.Rat).SetInt64(int64(s.Hi))) <= 0
}

func (x real) lag(counts []int) *big.Rat {
	sum := new(big.Rat)
	for i, n := range x {
		sum.Add(sum, new(big.Rat).Mul(n, new(big.Rat).SetInt64(int64(counts[i]))))
	}
	return sum
}

// down and up are the whole numbers beside a fraction.
func down(n *big.Rat) int {
	return int(new(big.Int).Div(n.Num(), n.Denom()).Int64()) // Euclid's: by a number above 0 it rounds down
}

func up(n *big.Rat) int { return -down(new(big.Rat).Neg(n)) }

// crossings returns the truths on the way from one to another whose lag is just so much, one at most, and both ends.
func crossings(counts, a, b []int, lag int) []real {
	out := []real{between(a, b, big.NewRat(0, 1)), between(a, b, big.NewRat(1, 1))}
	first, last := lagOf(counts, a), lagOf(counts, b)
	if first != last && lag >= min(first, last) && lag <= max(first, last) {
		out = append(out, between(a, b, big.NewRat(int64(lag-first), int64(last-first))))
	}
	return out
}

// vertices returns truths in which the lag is within a span, among which each pipe has its least number, and its greatest:
// these are where an edge of all truths, on which but one number is not an end, begins or ends within the lag.
func vertices(l []api.Pipe, counts []int, lag api.Span) []real {
	var out []real
	for _, a := range corners(l) {
		for i := range l {
			b := slices.Clone(a)
			b[i] = l[i].Slow.Hi
			for _, x := range append(crossings(counts, a, b, lag.Lo), crossings(counts, a, b, lag.Hi)...) {
				if isWithin(x.lag(counts), lag) {
					out = append(out, x)
				}
			}
		}
	}
	return out
}

func tune(l []api.Pipe, at int, h api.Hearing) ([]api.Span, api.Errno) {
	truths := vertices(l, counts(l, h.From, h.To, at), h.Lag)
	if len(truths) == 0 {
		return nil, api.ErrState
	}
	var out []api.Span
	for i := range l {
		least, greatest := truths[0][i], truths[0][i]
		for _, x := range truths {
			if x[i].Cmp(least) < 0 {
				least = x[i]
			}
			if x[i].Cmp(greatest) > 0 {
				greatest = x[i]
			}
		}
		out = append(out, span(down(least), up(greatest)))
	}
	return out, api.OK
}

// witness returns a truth in which a hearing is true of a noise at a place, nil if there is none.
func witness(l []api.Pipe, h api.Hearing, at int) real {
	c := counts(l, h.From, h.To, at)
	least, greatest := ends(c, corners(l))
	for _, lag := range [2]int{h.Lag.Lo, h.Lag.Hi} {
		for _, x := range crossings(c, least, greatest, lag) {
			if isWithin(x.lag(c), h.Lag) {
				return x
			}
		}
	}
	return nil
}

// kind is how great a line is.
type kind struct{ pipes, length, wide, slow int }

var (
	small  = kind{pipes: 3, length: 5, wide: 2, slow: 4}
	middle = kind{pipes: 5, length: 200, wide: 60, slow: 300}
	great  = kind{pipes: api.MaxPipes, length: api.MaxLength, wide: api.MaxSlow, slow: api.MaxSlow}
)

func anyLine(r *rand.Rand, k kind) []api.Pipe {
	var l []api.Pipe
	wide := pick(r, 1, k.wide/2+1, k.wide+1)
	for range 1 + r.Intn(k.pipes) {
		lo := 1 + r.Intn(k.slow)
		l = append(l, pipe(1+r.Intn(pick(r, k.length, k.length/4+1)), lo, min(k.slow, lo+r.Intn(wide))))
	}
	return l
}

// aPlace returns a place of a line, one of both ends more often than others.
func aPlace(r *rand.Rand, l []api.Pipe) int {
	return pick(r, 0, total(l), r.Intn(total(l)+1), r.Intn(total(l)+1), r.Intn(total(l)+1))
}

func someEars(r *rand.Rand, l []api.Pipe) (from, to int) {
	a, b := aPlace(r, l), aPlace(r, l)
	return min(a, b), max(a, b)
}

// someTruth returns any truth of a line.
func someTruth(r *rand.Rand, l []api.Pipe) real {
	var x real
	for _, p := range l {
		under := 1 + r.Intn(9)
		x = append(x, big.NewRat(int64(p.Slow.Lo*under+r.Intn((p.Slow.Hi-p.Slow.Lo)*under+1)), int64(under)))
	}
	return x
}

// trueHearing returns what can be heard of a noise in a truth.
func trueHearing(r *rand.Rand, l []api.Pipe, x real, at, wide int) api.Hearing {
	from, to := someEars(r, l)
	lag := x.lag(counts(l, from, to, at))
	lo, hi := down(lag), up(lag)
	return hearing(from, to, lo-r.Intn(wide+1), hi+r.Intn(wide+1))
}

// anyHearing returns a hearing that need not be true.
func anyHearing(r *rand.Rand, l []api.Pipe, wide int) api.Hearing {
	h := trueHearing(r, l, someTruth(r, l), aPlace(r, l), pick(r, 0, wide))
	if r.Intn(3) == 0 {
		n := h.Lag.Lo + pick(r, -1, 1)*r.Intn(wide+1)
		h.Lag = span(n, n+r.Intn(wide+1))
	}
	return h
}

func anyHearings(r *rand.Rand, l []api.Pipe, most, wide int) []api.Hearing {
	var out []api.Hearing
	for range r.Intn(most + 1) {
		out = append(out, anyHearing(r, l, wide))
	}
	return out
}
