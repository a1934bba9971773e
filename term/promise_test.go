package term_test

import (
	"math/rand"
	"slices"
	"testing"

	"meterworks/api"
	"meterworks/term"
)

// checkLives checks all that is told of a stock that is right: of each seal, each day, and some spans of days.
func checkLives(t *testing.T, r *rand.Rand, s api.Stock, all lives) {
	t.Helper()
	for n := range smallSeals + 2 {
		l := all.seals[n]
		if l == nil {
			checkEnd(t, "small", s, n, 0, 0, api.ErrNone)
			checkStatus(t, "small", s, n, 0, 0, api.ErrNone)
			continue
		}
		checkEnd(t, "small", s, n, l.end, l.times, api.OK)
		for _, day := range []int{0, l.day - 1, l.day, l.end - 1, l.end, l.broken - 1, l.broken, r.Intn(lastDay)} {
			if day >= 0 && day <= api.MaxDay {
				checkStatus(t, "small", s, n, day, l.stands(day), api.OK)
			}
		}
	}
	for day := range lastDay {
		checkCount(t, "small", s, day, all.count(day), api.OK)
		days := span(day, min(api.MaxDay, day+pick(r, 0, 0, 1, r.Intn(lastDay), api.MaxDay)))
		checkDue(t, "small", s, days, all.due(len(s.Classes), days), api.OK)
	}
}

// checked says which check did not hold, with which error.
type checked struct {
	rows, broken bool
	e            api.Errno
}

// P7.1 to P7.5: against each seal by itself, followed from day to day, in stocks of small numbers.
func TestAgainstEachSeal(t *testing.T) {
	r := rand.New(rand.NewSource(2))
	seen := map[checked]int{}
	var proofs, prolonged, back, later int
	for range 4000 {
		s := smallStock(r, pick(r, 0, 0, 30, 100))
		all := tell(s)
		if all.e != api.OK {
			rows, broken := s, s
			rows.Broken, rows.Proofs, broken.Proofs = nil, nil, nil
			seen[checked{tell(rows).e == api.OK, tell(broken).e == api.OK, all.e}]++
			if all.index > 0 {
				later++
			}
			checkWrong(t, "small", s, all.index, all.e)
		} else {
			proofs = max(proofs, len(s.Proofs))
			for _, l := range all.seals {
				prolonged = max(prolonged, l.times)
				if l.end < l.day+s.Classes[l.class].Term {
					back++
				}
			}
			checkCheck(t, "small", s, 0, api.OK)
			checkLives(t, r, s, all)
		}
		if t.Failed() {
			return
		}
	}
	for _, c := range []checked{
		{false, false, api.ErrTwice}, {true, false, api.ErrNone}, {true, false, api.ErrTwice}, {true, false, api.ErrOrder},
		{true, true, api.ErrNone}, {true, true, api.ErrRefuse}, {true, true, api.ErrTwice}, {true, true, api.ErrState},
		{true, false, api.ErrArg}, {true, true, api.ErrArg},
	} {
		if seen[c] < 5 {
			t.Error("the stocks are too much alike", c, seen)
		}
	}
	if proofs < 10 || prolonged < 2 || back < 500 || later < 100 {
		t.Error("the stocks are too much alike", proofs, prolonged, back, later)
	}
}

func sum(l []int) int {
	n := 0
	for _, x := range l {
		n += x
	}
	return n
}

// ended returns the end of a seal, and how often it was prolonged, of a stock that is right.
func ended(t *testing.T, s api.Stock, seal int) (day, times int) {
	t.Helper()
	day, times, e := term.End(s, seal)
	if e != api.OK {
		t.Error("End", s, seal, "returns", e)
	}
	return day, times
}

// P7.7: on each day all that stand somehow are all that there are, and from day to day the sealed ones change by what happens to them.
func TestSealsBalance(t *testing.T) {
	r := rand.New(rand.NewSource(3))
	var brokenOnEnd, brokenOver, brokenAtOnce int
	for range 1500 {
		s := smallStock(r, 0)
		all := 0
		for _, x := range s.Seals {
			all += x.To - x.From + 1
		}
		before := 0
		for day := range lastDay {
			counts, e := term.Count(s, day)
			if e != api.OK || len(counts) != 4 || sum(counts) != all {
				t.Fatal(s, day, "counts", counts, e, "of", all)
			}
			dues, _ := term.Due(s, span(day, day))
			change := -sum(dues)
			for _, x := range s.Seals {
				if x.Day == day {
					change += x.To - x.From + 1
				}
			}
			for _, b := range s.Broken {
				if b[1] != day {
					continue
				}
				end, _ := ended(t, s, b[0])
				if day <= end {
					change--
				}
				if day == end {
					brokenOnEnd++
				} else if day > end {
					brokenOver++
				} else if was, _ := term.Status(s, b[0], max(0, day-1)); was == api.NotYet {
					brokenAtOnce++
				}
			}
			if counts[api.Sealed]-before != change {
				t.Fatal(s, day, "has", counts, "after", before, "and not a change of", change)
			}
			before = counts[api.Sealed]
		}
	}
	if min(brokenOnEnd, brokenOver, brokenAtOnce) < 20 {
		t.Error("the stocks are too much alike", brokenOnEnd, brokenOver, brokenAtOnce)
	}
}

// P7.7: a class is prolonged by no proof that does not pass.
func TestOnlyWhatPassesProlongs(t *testing.T) {
	r := rand.New(rand.NewSource(4))
	failed := 0
	for range 10_000 {
		s := smallStock(r, 0)
		bad := clone(s)
		bad.Proofs = append(bad.Proofs, smallProof(r, s))
		p := bad.Proofs[len(s.Proofs)]
		if len(bad.Proofs) > api.MaxProofs || passes(p, s.Classes[p.Class]) || tell(bad).e != api.OK {
			continue
		}
		failed++
		for _, x := range bad.Seals {
			day, times := ended(t, s, x.From)
			less, fewer := ended(t, bad, x.From)
			if less > day || fewer > times || x.Class != p.Class && (less != day || fewer != times) {
				t.Fatal(s, "ends on", day, times, "and", bad, "on", less, fewer)
			}
		}
		none := clone(s)
		none.Proofs = []api.Proof{p}
		if tell(none).e == api.OK {
			for _, x := range none.Seals {
				if day, times := ended(t, none, x.From); times > 0 || day > x.Day+s.Classes[x.Class].Term {
					t.Fatal(none, "ends on", day, times)
				}
			}
		}
	}
	if failed < 100 {
		t.Error("too few proofs do not pass", failed)
	}
}

// checkSame checks that the same is told of two stocks that are right.
func checkSame(t *testing.T, a, b api.Stock) {
	t.Helper()
	checkCheck(t, "the same", b, 0, api.OK)
	for n := range smallSeals + 2 {
		day, times, e := term.End(a, n)
		checkEnd(t, "the same", b, n, day, times, e)
		for day := 0; day < lastDay; day += 7 {
			stands, e := term.Status(a, n, day)
			checkStatus(t, "the same", b, n, day, stands, e)
		}
	}
	for day := range lastDay {
		counts, e := term.Count(a, day)
		checkCount(t, "the same", b, day, counts, e)
		dues, e := term.Due(a, span(day, day))
		checkDue(t, "the same", b, span(day, day), dues, e)
	}
}

func shuffle[T any](r *rand.Rand, l []T) {
	r.Shuffle(len(l), func(i, k int) { l[i], l[k] = l[k], l[i] })
}

// P7.7 and P11: the order of rows, and of broken seals, makes no difference; nor does that of proofs of different days.
func TestOrder(t *testing.T) {
	r := rand.New(rand.NewSource(5))
	for range 400 {
		s := smallStock(r, 0)
		turned := clone(s)
		shuffle(r, turned.Seals)
		shuffle(r, turned.Broken)
		checkSame(t, s, turned)
		shuffle(r, turned.Proofs)
		byList := func(day int) []api.Proof {
			return slices.DeleteFunc(slices.Clone(s.Proofs), func(p api.Proof) bool { return p.Day != day })
		}
		taken := map[int]int{}
		for i, p := range turned.Proofs {
			turned.Proofs[i] = byList(p.Day)[taken[p.Day]]
			taken[p.Day]++
		}
		checkSame(t, s, turned)
		if t.Failed() {
			return
		}
	}
}

// P7.7: a row that is cut in two stays what it is.
func TestRowsThatAreCut(t *testing.T) {
	r := rand.New(rand.NewSource(6))
	cuts := 0
	for range 400 {
		s := smallStock(r, 0)
		cut := clone(s)
		for i, x := range s.Seals {
			if x.From == x.To {
				continue
			}
			at := x.From + r.Intn(x.To-x.From)
			cut.Seals[i].To = at
			cut.Seals = append(cut.Seals, row(at+1, x.To, x.Class, x.Day))
			cuts++
		}
		checkSame(t, s, cut)
		if t.Failed() {
			return
		}
	}
	if cuts < 500 {
		t.Error("too few rows are cut", cuts)
	}
}

// passesAfterFailing reports whether on some day a proof of a class passes after one that does not.
func passesAfterFailing(s api.Stock, class int) bool {
	failed := map[int]bool{}
	for _, p := range s.Proofs {
		if p.Class != class {
			continue
		}
		if !passes(p, s.Classes[class]) {
			failed[p.Day] = true
		} else if failed[p.Day] {
			return true
		}
	}
	return false
}

// P7.7: a proof more that passes makes no end earlier, wherever it stands in the list.
// Stocks in which a proof passes on the day of an earlier one that does not are left out: see TestPassesAfterFailing.
func TestOneMoreThatPasses(t *testing.T) {
	r := rand.New(rand.NewSource(7))
	passed, later := 0, 0
	for range 6000 {
		s := smallStock(r, 0)
		p := smallProof(r, s)
		more := clone(s)
		more.Proofs = slices.Insert(more.Proofs, r.Intn(len(s.Proofs)+1), p)
		if len(more.Proofs) > api.MaxProofs || !passes(p, s.Classes[p.Class]) || tell(more).e != api.OK || passesAfterFailing(more, p.Class) {
			continue
		}
		passed++
		for _, x := range s.Seals {
			day, _ := ended(t, s, x.From)
			end, _ := ended(t, more, x.From)
			if end < day || x.Class != p.Class && end != day {
				t.Fatal(s, "ends on", day, "and", more, "on", end)
			}
			if end > day {
				later++
			}
		}
	}
	if min(passed, later) < 200 {
		t.Error("too few proofs pass", passed, later)
	}
}

// P7.2, by the chapter's Terms: on a day a proof that passes prolongs what one before it sent back, but only as often as the class allows.
// So here, and only here, a proof more that passed before makes an end earlier, against P7.7.
func TestPassesAfterFailing(t *testing.T) {
	before, bad, good := proof(0, 20, 0, 1), proof(0, 50, 1, 2), proof(0, 50, 0, 3)
	once := class(100, 1, 30, 0)
	checkEnd(t, "not prolonged before", oneRow(once, bad, good), 1, 81, 1, api.OK)
	checkEnd(t, "prolonged before", oneRow(once, before, bad, good), 1, 51, 1, api.OK)
	checkEnd(t, "prolonged before, the other way round", oneRow(once, before, good, bad), 1, 51, 1, api.OK)
	checkEnd(t, "prolonged once of twice", oneRow(class(100, 2, 30, 0), before, bad, good), 1, 81, 2, api.OK)
}
