package bill_test

import (
	"math/big"
	"math/rand"
	"reflect"
	"slices"
	"testing"

	"meterworks/api"
	"meterworks/bill"
)

// counters say how often what was seen.
type counters map[string]int

func (c counters) see(what string, is bool) {
	if is {
		c[what]++
	}
}

// check checks that all was seen often enough.
func (c counters) check(t *testing.T, least int, all ...string) {
	t.Helper()
	for _, what := range all {
		if c[what] < least {
			t.Error("the accounts are too much alike:", what, c)
		}
	}
}

// someDay returns a day of an account, often one on which something changes or the one after it.
func someDay(r *rand.Rand, k kind, a api.Account) int {
	days := []int{a.Start + r.Intn(k.days-a.Start+1), a.Start + r.Intn(k.days-a.Start+1), a.Start, k.days}
	for _, day := range a.Bills {
		days = append(days, day)
	}
	for _, n := range a.Notes {
		days = append(days, n.Day, n.Came)
	}
	for _, d := range a.Disputes {
		days = append(days, d.From, d.To, d.Day)
	}
	for _, x := range a.Tariffs {
		days = append(days, max(x.From, a.Start))
	}
	return min(k.days, pick(r, days...)+r.Intn(2))
}

// checkAll checks all five functions against the words of the chapter.
func checkAll(t *testing.T, r *rand.Rand, k kind, a api.Account, seen counters) {
	t.Helper()
	byDays := k.days < 50
	for range 3 {
		day, known := someDay(r, k, a), max(0, someDay(r, k, a)-r.Intn(3))
		e := errorOf(a, known)
		used, _ := orZero(func() *big.Int { return usedOf(a, day, known) }, e)
		checkUsed(t, a, day, known, used, e)
		cost, _ := orZero(func() *big.Int { return costOf(a, day, known, byDays) }, e)
		checkCost(t, a, day, known, cost, e)
		owed, f := owedOf(a, day, byDays)
		checkOwed(t, a, day, owed, f)
		seen.see("known", e == api.OK)
		seen.see("not in order", e == api.ErrOrder)
		seen.see("owed below 0", owed < 0)
		seen.see("owed", owed > 0)
	}
	bills, e := billsOf(a, byDays)
	checkBills(t, a, bills, e)
	seen.see("bills", len(bills) > 1)
	seen.see("twice", e == api.ErrTwice)
	seen.see("bills not in order", e == api.ErrOrder)
	seen.see("corrected", slices.ContainsFunc(bills, func(b api.Bill) bool { return b.Correction != 0 }))
	seen.see("below 0", slices.ContainsFunc(bills, func(b api.Bill) bool { return b.Litres < 0 }))
	for i := range a.Disputes {
		pence, e := settledOf(a, i, byDays)
		checkSettle(t, a, i, pence, e)
		seen.see("paid", pence < 0)
		seen.see("pays", pence > 0)
	}
}

// P13.1 to P13.5: against the words of the chapter, reckoned in another way and with numbers of any size.
func TestAnyAccounts(t *testing.T) {
	for i, k := range []kind{small, middle, great, right} {
		r := rand.New(rand.NewSource(int64(1 + i)))
		seen := counters{}
		for range []int{6000, 6000, 6000, 6000}[i] {
			checkAll(t, r, k, someAccount(r, k), seen)
			if t.Failed() {
				return
			}
		}
		seen.check(t, 20, "owed below 0")
		seen.check(t, 500, "known", "owed", "bills", "corrected", "below 0", "paid", "pays")
		if k.wrong > 0 {
			seen.check(t, 100, "twice", "not in order", "bills not in order")
		}
	}
}

// answers are the results of all five functions, those of Used and Cost by the day and by what was known.
type answers struct {
	used, cost, owed, settled []int
	bills                     []api.Bill
	errors                    []api.Errno
}

func (x *answers) add(to *[]int, n int, e api.Errno) {
	*to, x.errors = append(*to, n), append(x.errors, e)
}

func answersOf(a api.Account, days []int) answers {
	var x answers
	for _, day := range days {
		for _, known := range days {
			n, e := bill.Used(a, day, known)
			x.add(&x.used, n, e)
			n, e = bill.Cost(a, day, known)
			x.add(&x.cost, n, e)
		}
		n, e := bill.Owed(a, day)
		x.add(&x.owed, n, e)
	}
	for i := range a.Disputes {
		n, e := bill.Settle(a, i)
		x.add(&x.settled, n, e)
	}
	bills, e := bill.Bills(a)
	x.bills, x.errors = bills, append(x.errors, e)
	return x
}

// checkSame checks that two accounts have the same answers.
func checkSame(t *testing.T, what string, a, b api.Account, days []int) {
	t.Helper()
	if x, y := answersOf(a, days), answersOf(b, days); !reflect.DeepEqual(x, y) {
		t.Fatal(what, "the answers of", a, "on", days, "are", x, "and those of", b, "are", y)
	}
}

func someDays(r *rand.Rand, k kind, a api.Account) []int {
	var out []int
	for range 4 {
		out = append(out, someDay(r, k, a))
	}
	return out
}

// each gives accounts of a kind, or of all kinds, with days.
func each(seed int64, many int, give func(r *rand.Rand, k kind, a api.Account, days []int), kinds ...kind) {
	r := rand.New(rand.NewSource(seed))
	for range many {
		k := pick(r, kinds...)
		a := someAccount(r, k)
		give(r, k, a, someDays(r, k, a))
	}
}

// P13.6: arguments are only read, and results are new.
func TestMemory(t *testing.T) {
	each(5, 500, func(r *rand.Rand, k kind, a api.Account, days []int) {
		// More room in the lists, in which something could be written.
		a.Bills, a.Notes = append(a.Bills, 7, 7, 7)[:len(a.Bills)], append(a.Notes, note(7, 7, 7))[:len(a.Notes)]
		a.Tariffs, a.Disputes = append(a.Tariffs, tariffs(7, 7, 7, 7)...)[:len(a.Tariffs)], append(a.Disputes, tested(7, 7, 7, 7))[:len(a.Disputes)]
		was := clone(a)
		before := answersOf(a, days)
		if !reflect.DeepEqual(a, was) {
			t.Fatal("the account", was, "is changed to", a)
		}
		if !slices.Equal(a.Bills[:len(a.Bills)+1][len(a.Bills):], []int{7}) || a.Notes[:len(a.Notes)+1][len(a.Notes)] != note(7, 7, 7) ||
			a.Tariffs[:len(a.Tariffs)+1][len(a.Tariffs)] != (api.Tariff{From: 7, Pence: 7}) || a.Disputes[:len(a.Disputes)+1][len(a.Disputes)] != tested(7, 7, 7, 7) {
			t.Fatal("something is written behind the lists of", was)
		}
		first, _ := bill.Bills(a)
		second, _ := bill.Bills(a)
		for i := range first {
			first[i] = written(-7, -7, -7)
		}
		if !slices.Equal(second, before.bills) {
			t.Fatal("two results of Bills share memory", a)
		}
		checkSame(t, "again:", a, was, days)
	}, small, middle, great, right)
}

// R3: nil lists and empty ones are the same.
func TestNilAndEmpty(t *testing.T) {
	a := plain()
	b := clone(a)
	b.Bills, b.Notes, b.Disputes = []int{}, []api.Note{}, []api.Dispute{}
	a.Bills, a.Notes, a.Disputes = nil, nil, nil
	checkSame(t, "empty:", a, b, []int{10, 20, api.MaxDay})
}

// P10 and P13.7: all bills together are what it costs up to the day of the last one, and no more than what each bill corrects is billed of days before.
func TestBillsTogether(t *testing.T) {
	corrected := 0
	each(6, 4000, func(r *rand.Rand, k kind, a api.Account, _ []int) {
		bills, e := bill.Bills(a)
		if e != api.OK {
			return
		}
		litres, pence := 0, 0
		for i, b := range bills {
			day := a.Bills[i]
			litres, pence = litres+b.Litres, pence+b.Pence
			checkUsed(t, a, day, day, litres, api.OK)
			checkCost(t, a, day, day, pence, api.OK)
			checkOwed(t, a, day, 0, api.OK)
			if i > 0 {
				before := a.Bills[i-1]
				checkCost(t, a, before, day, pence-b.Pence+b.Correction, api.OK)
				corrected += min(1, max(b.Correction, -b.Correction))
			} else if b.Correction != 0 {
				t.Fatal("the first bill of", a, "corrects", b)
			}
		}
		if t.Failed() {
			t.FailNow()
		}
	}, small, middle, great, right)
	if corrected < 1000 {
		t.Error("the accounts are too much alike", corrected)
	}
}

// P11 and P13.7: neither the order of notes makes a difference, nor one that is there twice.
func TestOrderOfNotes(t *testing.T) {
	each(7, 3000, func(r *rand.Rand, k kind, a api.Account, days []int) {
		b := clone(a)
		r.Shuffle(len(b.Notes), func(i, j int) { b.Notes[i], b.Notes[j] = b.Notes[j], b.Notes[i] })
		checkSame(t, "in another order:", a, b, days)
		for len(b.Notes) > 0 && len(b.Notes) < api.MaxNotes && r.Intn(2) == 0 {
			b.Notes = slices.Insert(b.Notes, r.Intn(len(b.Notes)+1), pick(r, b.Notes...))
			checkSame(t, "with one twice:", a, b, days)
		}
	}, small, middle, great, right)
}

// withoutOne returns an account without one of its notes or disputes, and when this came.
func withoutOne(r *rand.Rand, a api.Account) (api.Account, int) {
	b := clone(a)
	i := r.Intn(len(a.Notes) + len(a.Disputes))
	if i < len(a.Notes) {
		b.Notes = slices.Delete(b.Notes, i, i+1)
		return b, a.Notes[i].Came
	}
	i -= len(a.Notes)
	b.Disputes = slices.Delete(b.Disputes, i, i+1)
	return b, a.Disputes[i].Day
}

// P13.7: a note that came after a bill does not change it, nor does a dispute.
func TestAfterBills(t *testing.T) {
	changed := 0
	each(8, 6000, func(r *rand.Rand, k kind, a api.Account, days []int) {
		if len(a.Notes)+len(a.Disputes) == 0 || errorOf(a, a.Bills...) != api.OK {
			return
		}
		b, came := withoutOne(r, a)
		if errorOf(b, b.Bills...) != api.OK {
			return
		}
		got, _ := bill.Bills(b)
		want, _ := bill.Bills(a)
		for i, day := range a.Bills {
			if day < came && got[i] != want[i] {
				t.Fatal("what came on the day", came, "changes a bill of", a, "from", got[i], "to", want[i])
			}
			if day >= came && got[i] != want[i] {
				changed++
			}
		}
		for _, day := range days {
			if day >= came {
				continue
			}
			used, e := bill.Used(b, day, day)
			checkUsed(t, a, day, day, used, e)
			owed, e := bill.Owed(b, day)
			checkOwed(t, a, day, owed, e)
		}
	}, small, middle, great, right)
	if changed < 500 {
		t.Error("the accounts are too much alike", changed)
	}
}

// P10 and P13.7: a note that came late changes the bills once, and in the end as much as if it had come at once.
func TestLateNotes(t *testing.T) {
	late := 0
	each(9, 8000, func(r *rand.Rand, k kind, a api.Account, _ []int) {
		if len(a.Notes) == 0 {
			return
		}
		i := r.Intn(len(a.Notes))
		day, came := a.Notes[i].Day, a.Notes[i].Came
		if slices.IndexFunc(a.Notes, func(n api.Note) bool { return n.Day == day && n != a.Notes[i] }) >= 0 {
			return
		}
		b := clone(a)
		for i := range b.Notes {
			if b.Notes[i].Day == day {
				b.Notes[i].Came = day
			}
		}
		then, e := bill.Bills(a)
		atOnce, f := bill.Bills(b)
		if e != api.OK || f != api.OK {
			t.Fatal("Bills", a, "has the errors", e, f)
		}
		sum := 0
		for i, on := range a.Bills {
			sum += then[i].Pence - atOnce[i].Pence
			switch {
			case on < day && then[i] != atOnce[i]:
				t.Fatal("a note of the day", day, "changes a bill before it", then[i], atOnce[i], a)
			case on >= came && sum != 0:
				t.Fatal("after a note that came late, all bills are", sum, "more", a)
			case i > 0 && a.Bills[i-1] >= came && then[i] != atOnce[i]:
				t.Fatal("a note that came late changes two bills", then[i], atOnce[i], a)
			case on >= came && then[i] != atOnce[i]:
				late++
			}
		}
	}, right)
	if late < 500 {
		t.Error("the accounts are too much alike", late)
	}
}

// P10: in whichever order the notes come, once all have come the bills are the same together.
func TestOrderOfComing(t *testing.T) {
	each(10, 3000, func(r *rand.Rand, k kind, a api.Account, _ []int) {
		if len(a.Bills) == 0 {
			return
		}
		last := a.Bills[len(a.Bills)-1]
		a.Notes = slices.DeleteFunc(a.Notes, func(n api.Note) bool { return n.Day > last })
		slices.SortFunc(a.Notes, func(x, y api.Note) int { return x.Day - y.Day })
		a.Notes = slices.CompactFunc(a.Notes, func(x, y api.Note) bool { return x.Day == y.Day })
		b := clone(a)
		for i, n := range a.Notes {
			a.Notes[i].Came = n.Day + r.Intn(last-n.Day+1)
			b.Notes[i].Came = n.Day + r.Intn(last-n.Day+1)
		}
		together := func(a api.Account) (litres, pence int) {
			bills, e := bill.Bills(a)
			if e != api.OK {
				t.Fatal("Bills", a, "has the error", e)
			}
			for _, x := range bills {
				litres, pence = litres+x.Litres, pence+x.Pence
			}
			return litres, pence
		}
		litres, pence := together(a)
		if l, p := together(b); l != litres || p != pence {
			t.Fatal("the bills of", a, "are", litres, pence, "together, and those of", b, l, p)
		}
	}, right)
}

// P10 and P13.7: who disputes a meter that errs no more than allowed pays the Fee, and nothing else changes.
// If it showed too much, he pays no more than before, and if it showed too little, no less.
func TestDisputes(t *testing.T) {
	seen := counters{}
	each(11, 4000, func(r *rand.Rand, k kind, a api.Account, days []int) {
		for i, d := range a.Disputes {
			pence, e := bill.Settle(a, i)
			if e != api.OK {
				continue
			}
			other := with(a, func(a *api.Account) { a.Disputes = slices.Delete(a.Disputes, i, i+1) })
			switch {
			case !isUpheld(d):
				if pence != d.Fee {
					t.Fatal("Settle", a, i, "is", pence, "and not the Fee")
				}
				checkNothingElse(t, a, other, d, days)
				seen.see("rejected", true)
			case d.Error > 0 && pence > 0, d.Error < 0 && pence < 0:
				t.Fatal("Settle", a, i, "is", pence)
			}
			seen.see("less", pence < 0)
			seen.see("more", pence > 0 && isUpheld(d))
			for _, day := range days {
				with, e := bill.Used(a, day, d.Day)
				without, _ := bill.Used(other, day, d.Day)
				if more := with - without; e == api.OK && isUpheld(d) && (d.Error > 0 && more > 0 || d.Error < 0 && more < 0) {
					t.Fatal("Used", a, day, d.Day, "is more by", more, "with the dispute", d)
				}
			}
		}
	}, small, middle, great, right)
	seen.check(t, 500, "rejected", "less", "more")
}

// checkNothingElse checks that with a dispute that is not upheld only its Fee is paid, from the day on which it is known.
func checkNothingElse(t *testing.T, a, without api.Account, d api.Dispute, days []int) {
	t.Helper()
	for _, day := range days {
		for _, known := range days {
			used, e := bill.Used(without, day, known)
			checkUsed(t, a, day, known, used, e)
			cost, e := bill.Cost(without, day, known)
			if e == api.OK && d.Day <= known {
				cost += d.Fee
			}
			checkCost(t, a, day, known, cost, e)
		}
	}
	if t.Failed() {
		t.FailNow()
	}
}

// P3 and P13.7: of a meter whose notes are true, what was used is right on each day of a known note, between two of them it is between both, and it never lessens.
func TestTrueNotes(t *testing.T) {
	each(12, 4000, func(r *rand.Rand, k kind, a api.Account, _ []int) {
		a.Disputes = nil
		for _, known := range []int{a.Start, k.days / 2, k.days} {
			before := 0
			for _, p := range figuresOf(a, known) {
				checkUsed(t, a, p.day, known, p.litres-a.Figure, api.OK)
			}
			for day := a.Start; day <= k.days; day++ {
				used, e := bill.Used(a, day, known)
				if used < before || e != api.OK {
					t.Fatal("Used", a, day, known, "is", used, e, "and was", before)
				}
				before = used
			}
		}
	}, right)
}
