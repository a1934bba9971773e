package lot

import (
	"iter"

	"meterworks/api"
)

// meters are some meters: how many of them are bad, and how many are good.
type meters struct{ bad, good int }

func lotWith(bad, size int) meters { return meters{bad, size - bad} }

func (m meters) count() int { return m.bad + m.good }

func (m meters) without(taken meters) meters {
	return meters{m.bad - taken.bad, m.good - taken.good}
}

// triangle says, in the row of a number and the column of another one, in how many ways so many can be taken of the first number.
// At most these are 1.3 * 10^14, so that MaxChances times as many samples are no overflow.
type triangle [api.MaxLot + 1][api.MaxLot + 1]int

func newTriangle() *triangle {
	var t triangle
	for of := range t {
		t[of][0] = 1
		for take := 1; take <= of; take++ {
			t[of][take] = t[of-1][take-1] + t[of-1][take]
		}
	}
	return &t
}

// samples gives the samples of so many meters with each number of bad ones that they can have, rising, and how many of each there are.
func (t *triangle) samples(of meters, count int) iter.Seq2[meters, int] {
	return func(yield func(meters, int) bool) {
		for bad := max(0, count-of.good); bad <= min(count, of.bad); bad++ {
			taken := lotWith(bad, count)
			if !yield(taken, t[of.bad][taken.bad]*t[of.good][taken.good]) {
				return
			}
		}
	}
}

// tested returns on how many samples a lot passes, and how many there are. It passes on none if Accept is below 0, as it can be for a second sample.
func (t *triangle) tested(lot meters, p api.Plan) (passed, all int) {
	for taken, ways := range t.samples(lot, p.Samples) {
		if taken.bad > p.Accept {
			break
		}
		passed += ways
	}
	return passed, t[lot.count()][p.Samples]
}

// testedTwice returns on how many of all that can be taken a lot passes, on how many a second sample is needed, and how many there are.
func (t *triangle) testedTwice(lot meters, d api.Double) (passed, second, all int) {
	for taken, ways := range t.samples(lot, d.First) {
		passedThen, seconds := t.tested(lot.without(taken), api.Plan{Samples: d.Second, Accept: d.Total - taken.bad})
		all += ways * seconds
		switch {
		case taken.bad <= d.Accept:
			passed += ways * seconds
		case taken.bad < d.Refuse:
			passed += ways * passedThen
			second += ways * seconds
		}
	}
	return passed, second, all
}

// likely reports whether more than doubt thousandths of all samples have at most found bad meters, and more than doubt at least found.
func (t *triangle) likely(lot meters, count, found, doubt int) bool {
	atMost, atLeast, all := 0, 0, 0
	for taken, ways := range t.samples(lot, count) {
		all += ways
		if taken.bad <= found {
			atMost += ways
		}
		if taken.bad >= found {
			atLeast += ways
		}
	}
	return api.MaxChances*atMost > doubt*all && api.MaxChances*atLeast > doubt*all
}
