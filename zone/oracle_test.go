package zone_test

import (
	"math/big"
	"math/rand"

	"meterworks/api"
)

func pick[T any](r *rand.Rand, l ...T) T { return l[r.Intn(len(l))] }

// between returns a number from a span, any fraction.
func between(r *rand.Rand, s api.Span) *big.Rat {
	parts := int64(1 + r.Intn(1000))
	n := big.NewRat(int64(s.Hi-s.Lo), parts)
	n.Mul(n, big.NewRat(r.Int63n(parts+1), 1))
	return n.Add(n, big.NewRat(int64(s.Lo), 1))
}

func whole(n int) *big.Rat { return big.NewRat(int64(n), 1) }

// lossOf is the loss of a zone in a truth, by the words of the chapter.
func lossOf(in, shown, wrong, lawful *big.Rat) *big.Rat {
	through := new(big.Rat).Mul(whole(1000), shown)
	through.Quo(through, new(big.Rat).Add(whole(1000), wrong))
	loss := new(big.Rat).Sub(in, through)
	return loss.Sub(loss, lawful)
}

// isAtLeast reports whether a is at least b.
func isAtLeast(a, b *big.Rat) bool { return a.Cmp(b) >= 0 }

// extremes returns the least and the greatest loss of all truths with one of both ends of each span.
// A loss between grows or lessens with each number, as long as the others stay.
func extremes(z api.Zone) (least, greatest *big.Rat) {
	for corner := range 16 {
		end := func(i int, s api.Span) *big.Rat {
			if corner>>i&1 == 1 {
				return whole(s.Hi)
			}
			return whole(s.Lo)
		}
		loss := lossOf(end(0, z.In), end(1, z.Meters), end(2, z.Error), end(3, z.Lawful))
		if least == nil || !isAtLeast(loss, least) {
			least = loss
		}
		if greatest == nil || !isAtLeast(greatest, loss) {
			greatest = loss
		}
	}
	return least, greatest
}

// floor rounds down: big.Int's Div, by a number above 0.
func floor(n *big.Rat) int { return int(new(big.Int).Div(n.Num(), n.Denom()).Int64()) }

func ceiling(n *big.Rat) int { return -floor(new(big.Rat).Neg(n)) }

func ownOf(z api.Zone) api.Span {
	least, greatest := extremes(z)
	s := span(max(0, ceiling(least)), floor(greatest))
	if s.Hi < s.Lo {
		return none()
	}
	return s
}

func ownsOf(l []api.Zone) []api.Span {
	var out []api.Span
	for _, z := range l {
		out = append(out, ownOf(z))
	}
	return out
}

func partsOf(l []api.Zone, whole int) []int {
	var out []int
	for i, z := range l {
		if z.Part == whole {
			out = append(out, i)
		}
	}
	return out
}

// below returns the zones of a tree: one with its parts, their parts and so on. Below NoZone are all.
func below(l []api.Zone, top int) []int {
	var out []int
	if top != api.NoZone {
		out = append(out, top)
	}
	for _, part := range partsOf(l, top) {
		out = append(out, below(l, part)...)
	}
	return out
}

// eachTruth gives all truths in whole litres of a tree of zones, number by number: what each zone without parts loses.
func eachTruth(l []api.Zone, own []api.Span, top int, give func(losses []int)) {
	tree := below(l, top)
	losses := make([]int, len(l))
	var from func(i int)
	from = func(i int) {
		if i < 0 {
			give(losses)
			return
		}
		zone := tree[i]
		parts := partsOf(l, zone)
		least, most := own[zone].Lo, own[zone].Hi
		if len(parts) > 0 {
			sum := 0
			for _, part := range parts {
				sum += losses[part]
			}
			least, most = max(least, sum), min(most, sum)
		}
		for n := least; n <= most; n++ {
			losses[zone] = n
			from(i - 1)
		}
		losses[zone] = 0
	}
	from(len(tree) - 1)
}

// lossesOf takes the least and the greatest loss of all truths.
func lossesOf(l []api.Zone) ([]api.Span, api.Errno) {
	var out []api.Span
	eachTruth(l, ownsOf(l), api.NoZone, func(losses []int) {
		for i, n := range losses {
			if len(out) <= i {
				out = append(out, just(n))
			}
			out[i] = span(min(out[i].Lo, n), max(out[i].Hi, n))
		}
	})
	if out == nil {
		return nil, api.ErrState
	}
	return out, api.OK
}

// wrongOf tries each zone alone, with its parts, their parts and so on.
func wrongOf(l []api.Zone) (int, api.Errno) {
	own := ownsOf(l)
	for i := len(l) - 1; i >= 0; i-- {
		some := false
		eachTruth(l, own, i, func([]int) { some = true })
		if !some {
			return i, api.OK
		}
	}
	return 0, api.ErrNone
}

// tightened returns the losses of zones by another way: each sum of parts is looked at again and again, until none makes a span narrower.
func tightened(l []api.Zone) ([]api.Span, api.Errno) {
	s := ownsOf(l)
	for changes := true; changes; {
		changes = false
		narrow := func(i, least, most int) {
			n := span(max(s[i].Lo, least), min(s[i].Hi, most))
			changes = changes || n != s[i]
			s[i] = n
		}
		for i := range l {
			parts := partsOf(l, i)
			if s[i].Hi < s[i].Lo {
				return nil, api.ErrState
			}
			if len(parts) == 0 {
				continue
			}
			var sum api.Span
			for _, p := range parts {
				sum = span(sum.Lo+s[p].Lo, sum.Hi+s[p].Hi)
			}
			narrow(i, sum.Lo, sum.Hi)
			for _, p := range parts {
				narrow(p, s[i].Lo-(sum.Hi-s[p].Hi), s[i].Hi-(sum.Lo-s[p].Lo))
				sum = api.Span{}
				for _, q := range parts {
					sum = span(sum.Lo+s[q].Lo, sum.Hi+s[q].Hi)
				}
			}
		}
	}
	return s, api.OK
}

func leaksOf(n api.Night) api.Span {
	var out api.Span
	for i, flow := range []int{n.Flow.Lo, n.Flow.Hi} {
		for k, use := range []int{n.Use.Lo, n.Use.Hi} {
			for m, hours := range []int{n.Hours.Lo, n.Hours.Hi} {
				leak := 0
				if flow > use {
					leak = (flow - use) * hours
				}
				if i+k+m == 0 {
					out = just(leak)
				}
				out = span(min(out.Lo, leak), max(out.Hi, leak))
			}
		}
	}
	return out
}

func firstOf(l []api.Zone, losses []api.Span, nights []api.Night) (int, api.Errno) {
	best, first := 0, 0
	e := api.ErrNone
	for i := range l {
		if len(partsOf(l, i)) > 0 {
			continue
		}
		known := losses[i].Lo
		if leak := leaksOf(nights[i]).Lo; leak > losses[i].Hi {
			known = max(known, losses[i].Hi)
		} else {
			known = max(known, leak)
		}
		if known > best {
			best, first, e = known, i, api.OK
		}
	}
	return first, e
}

// anyPart returns a part of zones that come before, or of none.
func anyPart(r *rand.Rand, i int) int { return pick(r, -1, r.Intn(i+1)-1, r.Intn(i+1)-1) }

// smallZones returns few zones, whose own spans are of few and small numbers, with meters that err.
func smallZones(r *rand.Rand) []api.Zone {
	var l []api.Zone
	for i := range 1 + r.Intn(5) {
		in, shown := r.Intn(20), r.Intn(9)
		wrong := -r.Intn(pick(r, 1, 100, 501))
		lawful := r.Intn(pick(r, 1, 2, 4))
		l = append(l, of(
			span(in, in+r.Intn(3)), span(shown, shown+r.Intn(2)),
			span(wrong, min(500, wrong+r.Intn(200))), span(lawful, lawful+r.Intn(2)), anyPart(r, i)))
	}
	return l
}

func anyLitres(r *rand.Rand, most int) api.Span {
	lo := r.Intn(most + 1)
	return span(lo, pick(r, lo, lo+r.Intn(most-lo+1), min(most, lo+r.Intn(1000))))
}

func anyNights(r *rand.Rand, n, most int) []api.Night {
	var l []api.Night
	for range n {
		l = append(l, night(anyLitres(r, most), anyLitres(r, most), anyLitres(r, pick(r, 3, api.MaxHours))))
	}
	return l
}

// around returns a span within 0 to MaxLitres that contains a number.
func around(r *rand.Rand, n, wide int) api.Span {
	return span(max(0, n-r.Intn(wide+1)), min(api.MaxLitres, n+r.Intn(wide+1)))
}

// trueZones returns zones of any numbers, and what each of them truly loses, in whole litres.
func trueZones(r *rand.Rand) ([]api.Zone, []int) {
	n := pick(r, api.MaxZones, 1+r.Intn(api.MaxZones))
	l, losses := make([]api.Zone, n), make([]int, n)
	most := pick(r, 50, 5000, api.MaxLitres/api.MaxZones)
	for i := range l {
		l[i].Part = anyPart(r, i)
	}
	for i := n - 1; i >= 0; i-- {
		if len(partsOf(l, i)) == 0 {
			losses[i] = r.Intn(most + 1)
		}
		if whole := l[i].Part; whole != api.NoZone {
			losses[whole] += losses[i]
		}
	}
	for i := range l {
		l[i] = trueZone(r, losses[i], l[i].Part)
	}
	return l, losses
}

// trueZone returns a zone of which a loss is true: what is not lost went through its meters, or was drawn lawfully.
func trueZone(r *rand.Rand, loss, part int) api.Zone {
	wide := pick(r, 0, 10, 1000, api.MaxLitres)
	rest := r.Intn(pick(r, 1, 10, 10_000, api.MaxLitres/2) + 1)
	lawful := r.Intn(rest + 1)
	in := min(api.MaxLitres, loss+rest)
	lawful = min(lawful, in-loss)
	wrong := r.Intn(2*api.MaxThou+1) - api.MaxThou
	through := in - loss - lawful
	shown := whole(1000 + wrong)
	shown.Mul(shown, big.NewRat(int64(through), 1000))
	least, most := floor(shown), ceiling(shown)
	if most > api.MaxLitres {
		wrong, least, most = 0, through, through
	}
	meters := around(r, least, wide)
	meters.Hi = max(meters.Hi, most)
	errs := span(max(-api.MaxThou, wrong-r.Intn(pick(r, 1, 30))), min(api.MaxThou, wrong+r.Intn(pick(r, 1, 30))))
	return of(around(r, in, wide), meters, errs, around(r, lawful, wide), part)
}
