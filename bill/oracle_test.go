package bill_test

import (
	"cmp"
	"math/big"
	"math/rand"
	"slices"

	"meterworks/api"
)

func pick[T any](r *rand.Rand, l ...T) T { return l[r.Intn(len(l))] }

func whole(n int) *big.Int { return big.NewInt(int64(n)) }

func sum(l ...*big.Int) *big.Int {
	out := new(big.Int)
	for _, n := range l {
		out.Add(out, n)
	}
	return out
}

func less(a, b *big.Int) *big.Int { return new(big.Int).Sub(a, b) }

// part returns a number, times another one, divided by a third one above 0, rounded down as big.Int's Div does it.
func part(n *big.Int, times, by int) *big.Int {
	out := new(big.Int).Mul(n, whole(times))
	return out.Div(out, whole(by))
}

// figure is what a meter showed on a day.
type figure struct{ day, litres int }

// figuresOf returns the points known on a day: notes in the order of their days and of when they came, of which the last one of each day is taken.
func figuresOf(a api.Account, known int) []figure {
	l := slices.Clone(a.Notes)
	slices.SortFunc(l, func(x, y api.Note) int { return cmp.Or(x.Day-y.Day, x.Came-y.Came) })
	out := []figure{{a.Start, a.Figure}}
	for _, n := range l {
		switch {
		case n.Came > known:
		case out[len(out)-1].day == n.Day:
			out[len(out)-1].litres = n.Figure
		default:
			out = append(out, figure{n.Day, n.Figure})
		}
	}
	return out
}

// shownOf is what the meter showed, case by case.
func shownOf(a api.Account, day, known int) *big.Int {
	l := figuresOf(a, known)
	for i, p := range l {
		if p.day == day {
			return whole(p.litres)
		}
		if i > 0 && l[i-1].day < day && day < p.day {
			return sum(whole(l[i-1].litres), part(whole(p.litres-l[i-1].litres), day-l[i-1].day, p.day-l[i-1].day))
		}
	}
	last := l[len(l)-1]
	if len(l) == 1 {
		return sum(whole(last.litres), part(whole(day-last.day), a.Daily, 1))
	}
	before := l[len(l)-2]
	return sum(whole(last.litres), part(whole(last.litres-before.litres), day-last.day, last.day-before.day))
}

func isUpheld(d api.Dispute) bool { return d.Error > d.Allowed || -d.Error > d.Allowed }

// usedOf puts what was used together from stretches: those of tests that are upheld, and those before, between and after them.
func usedOf(a api.Account, day, known int) *big.Int {
	out := new(big.Int)
	from := a.Start
	pass := func(to, divisor int) {
		if to > from {
			out.Add(out, part(less(shownOf(a, to, known), shownOf(a, from, known)), 1000, divisor))
			from = to
		}
	}
	for _, d := range a.Disputes {
		if d.Day <= known && isUpheld(d) {
			pass(min(d.From, day), 1000)
			pass(min(d.To, day), 1000+d.Error)
		}
	}
	pass(day, 1000)
	return out
}

// tariffOf returns the number of the tariff that is in force on a day, and the first day after it on which another one is.
func tariffOf(a api.Account, day int) (int, int) {
	for i, t := range a.Tariffs {
		if t.From > day {
			return i - 1, t.From
		}
	}
	return len(a.Tariffs) - 1, api.MaxDay + 1
}

// costOf goes from the Start on from one day to the next one, or to the next one with another tariff, and adds up the litres of each tariff.
func costOf(a api.Account, day, known int, byDays bool) *big.Int {
	var litres [api.MaxTariffs]big.Int
	for from := a.Start; from < day; {
		number, to := tariffOf(a, from)
		to = min(to, day)
		if byDays {
			to = from + 1
		}
		litres[number].Add(&litres[number], less(usedOf(a, to, known), usedOf(a, from, known)))
		from = to
	}
	out := part(whole(day-a.Start), a.Standing, 1)
	for i, t := range a.Tariffs {
		out = sum(out, part(&litres[i], t.Pence, 1000))
	}
	for _, d := range a.Disputes {
		if d.Day <= known && !isUpheld(d) {
			out = sum(out, whole(d.Fee))
		}
	}
	return out
}

// isInOrder takes each two points of each day.
func isInOrder(a api.Account, days ...int) bool {
	for _, day := range days {
		l := figuresOf(a, day)
		for i, p := range l {
			if slices.ContainsFunc(l[i:], func(q figure) bool { return q.litres < p.litres }) {
				return false
			}
		}
	}
	return true
}

func isTwice(a api.Account) bool {
	figures := map[[2]int]int{}
	for _, n := range a.Notes {
		if other, is := figures[[2]int{n.Day, n.Came}]; is && other != n.Figure {
			return true
		}
		figures[[2]int{n.Day, n.Came}] = n.Figure
	}
	return false
}

// errorOf returns the error of an account that is valid, if it has to be in order on some days.
func errorOf(a api.Account, days ...int) api.Errno {
	switch {
	case isTwice(a):
		return api.ErrTwice
	case !isInOrder(a, days...):
		return api.ErrOrder
	}
	return api.OK
}

// orZero returns a number if there is no error.
func orZero(n func() *big.Int, e api.Errno) (int, api.Errno) {
	if e != api.OK {
		return 0, e
	}
	return int(n().Int64()), api.OK
}

// billsOf takes the sums of all bills before one from what it comes to.
func billsOf(a api.Account, byDays bool) ([]api.Bill, api.Errno) {
	if e := errorOf(a, a.Bills...); e != api.OK {
		return nil, e
	}
	var out []api.Bill
	for i, day := range a.Bills {
		b := written(int(usedOf(a, day, day).Int64()), int(costOf(a, day, day, byDays).Int64()), 0)
		for _, other := range out {
			b.Litres -= other.Litres
			b.Pence -= other.Pence
		}
		if i > 0 {
			before := a.Bills[i-1]
			b.Correction = int(less(costOf(a, before, day, byDays), costOf(a, before, before, byDays)).Int64())
		}
		out = append(out, b)
	}
	return out, api.OK
}

func owedOf(a api.Account, day int, byDays bool) (int, api.Errno) {
	bills := slices.Clone(a.Bills)
	for len(bills) > 0 && bills[len(bills)-1] > day {
		bills = bills[:len(bills)-1]
	}
	a.Bills = bills
	return orZero(func() *big.Int {
		out := costOf(a, day, day, byDays)
		l, _ := billsOf(a, byDays)
		for _, b := range l {
			out = less(out, whole(b.Pence))
		}
		return out
	}, errorOf(a, append(bills, day)...))
}

func settledOf(a api.Account, dispute int, byDays bool) (int, api.Errno) {
	day := a.Disputes[dispute].Day
	return orZero(func() *big.Int {
		other := clone(a)
		other.Disputes = append(other.Disputes[:dispute], other.Disputes[dispute+1:]...)
		return less(costOf(a, day, day, byDays), costOf(other, day, day, byDays))
	}, errorOf(a, day))
}

// kind says of how many days, litres and pence accounts are, and how many notes in a hundred show something wrong.
type kind struct{ days, litres, pence, wrong int }

var (
	small  = kind{14, 60, 10_000, 3}
	middle = kind{200, 50_000, 3000, 3}
	great  = kind{api.MaxDay, api.MaxLitres, api.MaxPrice, 1}
	right  = kind{60, 5000, 10_000, 0}
)

// rising returns different numbers that rise, from the least one to the greatest one.
func rising(r *rand.Rand, many, least, greatest int) []int {
	var out []int
	for range many {
		if least <= greatest {
			out = append(out, least+r.Intn(greatest-least+1))
		}
	}
	slices.Sort(out)
	return slices.Compact(out)
}

// someNotes returns notes in any order. On each day that has one the meter showed a figure that is not less than those before.
// Some came late, some showed something else before they came again, and some showed something wrong for good.
func someNotes(r *rand.Rand, k kind, a api.Account) []api.Note {
	days := rising(r, r.Intn(8), a.Start+1, k.days)
	var figures []int
	for range days {
		figures = append(figures, a.Figure+r.Intn(k.litres-a.Figure+1))
	}
	slices.Sort(figures)
	var out []api.Note
	for i, day := range days {
		came := pick(r, day, min(day+r.Intn(10), k.days), day+r.Intn(k.days-day+1))
		n := note(day, figures[i], came)
		if r.Intn(100) < k.wrong {
			n.Figure = r.Intn(k.litres + 1)
		}
		out = append(out, n)
		for r.Intn(4) == 0 && len(out) < api.MaxNotes {
			again := note(day, r.Intn(k.litres+1), pick(r, came, day+r.Intn(k.days-day+1), day+r.Intn(k.days-day+1)))
			if r.Intn(2) == 0 || again.Came > came {
				again.Figure = n.Figure
			}
			if k.wrong > 0 || again.Figure == n.Figure {
				out = append(out, again)
			}
		}
	}
	r.Shuffle(len(out), func(i, j int) { out[i], out[j] = out[j], out[i] })
	return out
}

func someDisputes(r *rand.Rand, k kind, start int) []api.Dispute {
	var out []api.Dispute
	from := start
	for range r.Intn(api.MaxDisputes + 1) {
		if days := rising(r, 2, from, k.days); len(days) == 2 {
			from = pick(r, days[1], days[1]+r.Intn(k.days-days[1]+1))
			out = append(out, api.Dispute{
				Day: pick(r, days[1], days[1]+r.Intn(k.days-days[1]+1)), From: days[0], To: days[1],
				Error: r.Intn(2*api.MaxThou+1) - api.MaxThou, Allowed: pick(r, 0, 20, r.Intn(api.MaxThou+1)), Fee: r.Intn(k.pence + 1),
			})
		}
	}
	return out
}

// someAccount returns an account of a kind that is valid.
func someAccount(r *rand.Rand, k kind) api.Account {
	a := api.Account{Start: pick(r, 0, r.Intn(k.days/2)), Figure: r.Intn(k.litres/2 + 1), Daily: r.Intn(min(k.litres, api.MaxDaily) + 1), Standing: r.Intn(min(k.pence, api.MaxStanding) + 1)}
	for _, from := range append([]int{0}, rising(r, r.Intn(api.MaxTariffs), 1, k.days)...) {
		a.Tariffs = append(a.Tariffs, api.Tariff{From: from, Pence: r.Intn(k.pence + 1)})
	}
	a.Bills = rising(r, r.Intn(8), a.Start+1, k.days)
	a.Notes = someNotes(r, k, a)
	a.Disputes = someDisputes(r, k, a.Start)
	return a
}
