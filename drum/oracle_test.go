package drum_test

import (
	"math/rand"

	"meterworks/api"
)

// The functions of this file follow the words of the document as plainly as they can: they try each total and each number at which a contact can close.

func turnOf(drums int) int {
	return []int{1000, 10_000, 100_000, 1_000_000, 10_000_000, 100_000_000, 1_000_000_000}[drums]
}

func floorMod(a, n int) int {
	m := a % n
	if m < 0 {
		m += n
	}
	return m
}

// placeOf returns the place of the drum k at a total.
func placeOf(k, total int) int {
	if k == 0 {
		return total % 10_000
	}
	place := 1000 * (total / turnOf(k) % 10)
	if before := placeOf(k-1, total); before > 9000 {
		place += before - 9000
	}
	return place
}

func placesOf(drums, total int) []int {
	var l []int
	for k := range drums {
		l = append(l, placeOf(k, total))
	}
	return l
}

func figuresOf(drums, total int) []int {
	var l []int
	for k := range drums {
		l = append(l, (placeOf(k, total)+500)/1000%10)
	}
	return l
}

func distance(a, b int) int { return max(a-b, b-a) }

// stands reports whether each drum stands within so many thousandths of its figure.
func stands(figures []int, within, total int) bool {
	for k, f := range figures {
		p := placeOf(k, total)
		if distance(p, 1000*f) > within && distance(p, 1000*f+10_000) > within {
			return false
		}
	}
	return true
}

// spansOfAll returns all totals of a reading as spans.
func spansOfAll(figures []int, within int) []api.Span {
	var l []api.Span
	for total := range turnOf(len(figures)) {
		switch last := len(l) - 1; {
		case !stands(figures, within, total):
		case last >= 0 && l[last].Hi == total-1:
			l[last].Hi = total
		default:
			l = append(l, api.Span{Lo: total, Hi: total})
		}
	}
	return l
}

func contains(spans []api.Span, total int) bool {
	for _, s := range spans {
		if s.Lo <= total && total <= s.Hi {
			return true
		}
	}
	return false
}

// closesAt returns each number at which a contact closes, in order.
func closesAt(start int, runs []int, at int) []int {
	var l []int
	a := start
	for _, run := range runs {
		b := a + run
		for x := a + 1; x <= b; x++ {
			if floorMod(x, 10_000) == at {
				l = append(l, x)
			}
		}
		for x := a - 1; x >= b; x-- {
			if floorMod(x, 10_000) == at {
				l = append(l, x)
			}
		}
		a = b
	}
	return l
}

func pulsesOf(start int, runs []int, at int) (counted, all int) {
	l := closesAt(start, runs, at)
	for i, x := range l {
		if i == 0 || x != l[i-1] {
			counted++
		}
	}
	return counted, len(l)
}

// anyRuns returns up to most runs, each shorter than longest, forwards and backwards.
func anyRuns(r *rand.Rand, most, longest int) []int {
	var l []int
	for range r.Intn(most + 1) {
		l = append(l, r.Intn(2*longest)-longest)
	}
	return l
}

func anyRegister(r *rand.Rand) api.Register {
	drums := 1 + r.Intn(api.MaxDrums)
	return api.Register{Drums: drums, Start: anyTotal(r, drums)}
}

// anyTotal returns a total; often one near a carry of some drum.
func anyTotal(r *rand.Rand, drums int) int {
	total := r.Intn(turnOf(drums))
	if r.Intn(2) == 0 {
		unit := turnOf(r.Intn(drums + 1))
		total += unit - total%unit + r.Intn(2001) - 1500
	}
	return floorMod(total, turnOf(drums))
}
