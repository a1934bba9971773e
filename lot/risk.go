package lot

import (
	"iter"

	"meterworks/api"
)

// risk is a risk that is printed: with so many bad meters it is kept, or not, by a plan that passes the lot on so many of all samples.
type risk interface {
	kept(bad, passed, all int) bool
}

// makers is the risk that lots with at most so many bad meters do not pass.
type makers struct{ good, most int }

func makerOf(l api.Lot) makers { return makers{l.Good, l.Maker} }

func (m makers) kept(bad, passed, all int) bool {
	return bad > m.good || api.MaxChances*passed >= (api.MaxChances-m.most)*all
}

// buyers is the risk that lots with at least so many bad meters pass.
type buyers struct{ bad, most int }

func buyerOf(l api.Lot) buyers { return buyers{l.Bad, l.Buyer} }

func (b buyers) kept(bad, passed, all int) bool {
	return bad < b.bad || api.MaxChances*passed <= b.most*all
}

// bears reports whether a plan keeps each of some risks with a lot.
func (t *triangle) bears(lot meters, p api.Plan, risks ...risk) bool {
	passed, all := t.tested(lot, p)
	for _, r := range risks {
		if !r.kept(lot.bad, passed, all) {
			return false
		}
	}
	return true
}

// least returns the least number from 0 to most for which something holds, and whether there is one.
func least[N ~int](most N, holds func(N) bool) (first N, ok bool) {
	for n := range most + 1 {
		if holds(n) {
			return n, true
		}
	}
	return 0, false
}

// failure returns the least number of bad meters with which a plan does not keep each of some risks, and whether there is one.
func (t *triangle) failure(size int, p api.Plan, risks ...risk) (bad int, fails bool) {
	return least(size, func(bad int) bool { return !t.bears(lotWith(bad, size), p, risks...) })
}

// plans gives all plans for a size: those with fewer samples first, of these those that accept less.
func plans(size int) iter.Seq[api.Plan] {
	return func(yield func(api.Plan) bool) {
		for samples := range size + 1 {
			for accept := range samples + 1 {
				if !yield(api.Plan{Samples: samples, Accept: accept}) {
					return
				}
			}
		}
	}
}

// choose returns the first plan that keeps both risks. There is one: who tests all meters, and accepts Good, runs no risk.
func (t *triangle) choose(l api.Lot) api.Plan {
	maker, buyer := makerOf(l), buyerOf(l)
	var chosen api.Plan
search:
	for chosen = range plans(l.Size) {
		for bad := range l.Size + 1 {
			if !t.bears(lotWith(bad, l.Size), chosen, maker, buyer) {
				continue search
			}
		}
		break
	}
	return chosen
}

// row returns what the maker needs and the buyer can bear of so many samples. The greatest Accept is sought from Samples downwards.
func (t *triangle) row(l api.Lot, samples int) api.Row {
	keeps := func(accept int, r risk) bool {
		_, fails := t.failure(l.Size, api.Plan{Samples: samples, Accept: accept}, r)
		return !fails
	}
	row := api.Row{Samples: samples, Maker: api.NoAccept, Buyer: api.NoAccept}
	if accept, ok := least(samples, func(accept int) bool { return keeps(accept, makerOf(l)) }); ok {
		row.Maker = accept
	}
	if less, ok := least(samples, func(less int) bool { return keeps(samples-less, buyerOf(l)) }); ok {
		row.Buyer = samples - less
	}
	return row
}
