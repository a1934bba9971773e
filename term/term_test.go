package term_test

import (
	"math"
	"slices"
	"testing"

	"meterworks/api"
	"meterworks/term"
)

func span(lo, hi int) api.Span { return api.Span{Lo: lo, Hi: hi} }

func class(limit, times, more, fail int) api.Class {
	return api.Class{Term: limit, Times: times, More: more, Fail: fail}
}

func row(from, to, class, day int) api.Seal {
	return api.Seal{From: from, To: to, Class: class, Day: day}
}

// proof returns a proof: which of its seals failed, by bits, then its seals.
func proof(class, day, failed int, seals ...int) api.Proof {
	return api.Proof{Class: class, Day: day, Seals: seals, Failed: failed}
}

func exampleStock() api.Stock {
	return api.Stock{
		Classes: []api.Class{class(1000, 1, 300, 1), class(500, 2, 100, 0)},
		Seals:   []api.Seal{row(1, 100, 0, 10), row(101, 150, 1, 20), row(201, 210, 0, 400)},
		Proofs:  []api.Proof{proof(0, 900, 1, 5, 50, 205), proof(1, 300, 2, 110, 120), proof(0, 1300, 0, 60)},
		Broken:  [][2]int{{50, 1000}, {130, 200}},
	}
}

// changed returns the example's stock with a change.
func changed(change func(s *api.Stock)) api.Stock {
	s := exampleStock()
	change(&s)
	return s
}

// oneRow returns a stock with the row 1 to 9, put on in the day 10, of a class with the term 100, and a class that has no row.
func oneRow(c api.Class, proofs ...api.Proof) api.Stock {
	return api.Stock{Classes: []api.Class{c, class(1, 0, 1, 0)}, Seals: []api.Seal{row(1, 9, 0, 10)}, Proofs: proofs}
}

func checkCheck(t *testing.T, name string, s api.Stock, want int, e api.Errno) {
	t.Helper()
	if got, f := term.Check(s); got != want || f != e {
		t.Error("Check", name, s, "is", got, f, "and not", want, e)
	}
}

func checkEnd(t *testing.T, name string, s api.Stock, seal, day, times int, e api.Errno) {
	t.Helper()
	if d, n, f := term.End(s, seal); d != day || n != times || f != e {
		t.Error("End", name, s, seal, "is", d, n, f, "and not", day, times, e)
	}
}

func checkStatus(t *testing.T, name string, s api.Stock, seal, day, want int, e api.Errno) {
	t.Helper()
	if got, f := term.Status(s, seal, day); got != want || f != e {
		t.Error("Status", name, s, seal, day, "is", got, f, "and not", want, e)
	}
}

func checkCount(t *testing.T, name string, s api.Stock, day int, want []int, e api.Errno) {
	t.Helper()
	if got, f := term.Count(s, day); !slices.Equal(got, want) || f != e {
		t.Error("Count", name, s, day, "is", got, f, "and not", want, e)
	}
}

func checkDue(t *testing.T, name string, s api.Stock, days api.Span, want []int, e api.Errno) {
	t.Helper()
	if got, f := term.Due(s, days); !slices.Equal(got, want) || f != e {
		t.Error("Due", name, s, days, "is", got, f, "and not", want, e)
	}
}

// checkWrong checks that each function returns an error of the stock before all others.
func checkWrong(t *testing.T, name string, s api.Stock, index int, e api.Errno) {
	t.Helper()
	checkCheck(t, name, s, index, e)
	for _, n := range []int{1, 0, -1, 5000, math.MinInt, math.MaxInt} {
		checkEnd(t, name, s, n, 0, 0, e)
		checkStatus(t, name, s, n, 10, 0, e)
		checkStatus(t, name, s, 1, n, 0, e)
		checkCount(t, name, s, n, nil, e)
		checkDue(t, name, s, span(n, n), nil, e)
		checkDue(t, name, s, span(n, -n), nil, e)
	}
}

// The chapter's examples.
func TestExamples(t *testing.T) {
	s := exampleStock()
	checkCheck(t, "example", s, 0, api.OK)
	checkEnd(t, "example", s, 7, 1310, 1, api.OK)
	checkEnd(t, "example", s, 110, 301, 0, api.OK)
	checkEnd(t, "example", s, 205, 1700, 1, api.OK)
	checkStatus(t, "example", s, 7, 9, api.NotYet, api.OK)
	checkStatus(t, "example", s, 7, 10, api.Sealed, api.OK)
	checkStatus(t, "example", s, 7, 1309, api.Sealed, api.OK)
	checkStatus(t, "example", s, 7, 1310, api.Over, api.OK)
	checkStatus(t, "example", s, 50, 999, api.Sealed, api.OK)
	checkStatus(t, "example", s, 50, 1000, api.Broken, api.OK)
	checkStatus(t, "example", s, 130, 300, api.Broken, api.OK)
	checkCount(t, "example", s, 15, []int{60, 100, 0, 0}, api.OK)
	checkCount(t, "example", s, 1000, []int{0, 109, 49, 2}, api.OK)
	checkDue(t, "example", s, span(300, 1310), []int{99, 49}, api.OK)
	checkWrong(t, "130 for 120", changed(func(s *api.Stock) { s.Proofs[1] = proof(1, 300, 2, 110, 130) }), 1, api.ErrState)
	checkWrong(t, "101 to 300", changed(func(s *api.Stock) { s.Seals[2] = row(101, 300, 0, 400) }), 2, api.ErrTwice)
}

// P7.1: the rows are looked at first.
func TestCheckRows(t *testing.T) {
	classes := []api.Class{class(100, 1, 50, 0), class(200, 0, 1, 3)}
	for _, c := range []struct {
		name  string
		rows  []api.Seal
		index int
		e     api.Errno
	}{
		{"no rows", nil, 0, api.OK},
		{"one seal alone", []api.Seal{row(7, 7, 0, 0)}, 0, api.OK},
		{"next to each other", []api.Seal{row(1, 5, 0, 0), row(6, 9, 0, 0)}, 0, api.OK},
		{"next to each other, turned", []api.Seal{row(6, 9, 0, 0), row(1, 5, 1, 3)}, 0, api.OK},
		{"one between two", []api.Seal{row(1, 5, 0, 0), row(7, 9, 0, 0), row(6, 6, 1, 3)}, 0, api.OK},
		{"the last one is the first one", []api.Seal{row(1, 5, 0, 0), row(5, 9, 0, 0)}, 1, api.ErrTwice},
		{"the first one is the last one", []api.Seal{row(5, 9, 0, 0), row(1, 5, 0, 0)}, 1, api.ErrTwice},
		{"one seal twice", []api.Seal{row(5, 5, 0, 0), row(5, 5, 1, 100)}, 1, api.ErrTwice},
		{"one within", []api.Seal{row(1, 9, 0, 0), row(4, 5, 1, 900)}, 1, api.ErrTwice},
		{"one around", []api.Seal{row(4, 5, 0, 0), row(1, 9, 0, 0)}, 1, api.ErrTwice},
		{"with the first one of several", []api.Seal{row(1, 5, 0, 0), row(6, 9, 0, 0), row(20, 30, 0, 0), row(3, 3, 0, 0)}, 3, api.ErrTwice},
		{"with the last one of several", []api.Seal{row(1, 5, 0, 0), row(6, 9, 0, 0), row(20, 30, 0, 0), row(30, 31, 0, 0)}, 3, api.ErrTwice},
		{"the first of two", []api.Seal{row(1, 5, 0, 0), row(5, 9, 0, 0), row(9, 12, 0, 0)}, 1, api.ErrTwice},
		{"all numbers, and the last one", []api.Seal{row(1, api.MaxSeal, 0, 0), row(api.MaxSeal, api.MaxSeal, 0, 0)}, 1, api.ErrTwice},
		{"all numbers but the last one, and it", []api.Seal{row(1, api.MaxSeal-1, 0, 0), row(api.MaxSeal, api.MaxSeal, 0, 0)}, 0, api.OK},
	} {
		checkCheck(t, c.name, api.Stock{Classes: classes, Seals: c.rows}, c.index, c.e)
		if c.e != api.OK {
			s := api.Stock{Classes: classes, Seals: c.rows, Broken: [][2]int{{999, 5}}, Proofs: []api.Proof{proof(0, 0, 0, 999)}}
			checkWrong(t, c.name, s, c.index, c.e)
		}
	}
}

// P7.1: the broken seals are looked at next.
func TestCheckBroken(t *testing.T) {
	classes := []api.Class{class(100, 1, 50, 0)}
	rows := []api.Seal{row(10, 19, 0, 50), row(21, 30, 0, 60)}
	for _, c := range []struct {
		name   string
		broken [][2]int
		index  int
		e      api.Errno
	}{
		{"none", nil, 0, api.OK},
		{"on the day of its row", [][2]int{{10, 50}, {21, 60}}, 0, api.OK},
		{"on the last day, after its end", [][2]int{{19, api.MaxDay}, {30, 161}}, 0, api.OK},
		{"before all", [][2]int{{9, 50}}, 0, api.ErrNone},
		{"between two", [][2]int{{19, 50}, {20, 50}}, 1, api.ErrNone},
		{"after all", [][2]int{{19, 50}, {30, 60}, {31, 50}}, 2, api.ErrNone},
		{"the least number", [][2]int{{1, 50}}, 0, api.ErrNone},
		{"the greatest number", [][2]int{{10, 50}, {api.MaxSeal, 50}}, 1, api.ErrNone},
		{"no row, though twice", [][2]int{{9, 50}, {9, 50}}, 0, api.ErrNone},
		{"twice on a day", [][2]int{{10, 50}, {10, 50}}, 1, api.ErrTwice},
		{"twice, then later", [][2]int{{10, 50}, {11, 50}, {10, 70}}, 2, api.ErrTwice},
		{"twice, then too early", [][2]int{{11, 50}, {10, 70}, {10, 49}}, 2, api.ErrTwice},
		{"too early", [][2]int{{10, 49}}, 0, api.ErrOrder},
		{"too early, and again", [][2]int{{10, 49}, {10, 49}}, 0, api.ErrOrder},
		{"too early by another row", [][2]int{{10, 55}, {21, 59}}, 1, api.ErrOrder},
		{"too early by far", [][2]int{{10, 55}, {21, 60}, {22, 0}}, 2, api.ErrOrder},
		{"the first error of several", [][2]int{{10, 55}, {21, 59}, {9, 50}, {10, 55}}, 1, api.ErrOrder},
	} {
		checkCheck(t, c.name, api.Stock{Classes: classes, Seals: rows, Broken: c.broken}, c.index, c.e)
		if c.e != api.OK {
			checkWrong(t, c.name, api.Stock{Classes: classes, Seals: rows, Broken: c.broken, Proofs: []api.Proof{proof(0, 0, 0, 999)}}, c.index, c.e)
			s := api.Stock{Classes: classes, Seals: append(slices.Clone(rows), row(30, 31, 0, 0)), Broken: c.broken}
			checkWrong(t, "a row before "+c.name, s, 2, api.ErrTwice)
		}
	}
}

// P7.1: the proofs are looked at last, as they come by their days.
func TestCheckProofs(t *testing.T) {
	classes := []api.Class{class(100, 1, 50, 0), class(80, 1, 20, 0)}
	rows := []api.Seal{row(10, 19, 0, 50), row(20, 29, 1, 50), row(40, 49, 0, 150)}
	broken := [][2]int{{15, 80}, {25, 50}}
	ok := proof(0, 70, 0, 10)
	for _, c := range []struct {
		name   string
		proofs []api.Proof
		index  int
		e      api.Errno
	}{
		{"none", nil, 0, api.OK},
		{"on the day of its row", []api.Proof{proof(0, 50, 0, 10)}, 0, api.OK},
		{"the day before", []api.Proof{ok, proof(0, 49, 0, 10)}, 1, api.ErrState},
		{"on the day before its end", []api.Proof{proof(0, 149, 0, 19)}, 0, api.OK},
		{"on its end", []api.Proof{proof(0, 150, 0, 19)}, 0, api.ErrState},
		{"on its end, prolonged", []api.Proof{proof(0, 150, 0, 19), ok}, 0, api.OK},
		{"on the day before its end, prolonged", []api.Proof{ok, proof(0, 199, 0, 19)}, 0, api.OK},
		{"on its end, prolonged once only", []api.Proof{ok, proof(0, 199, 0, 19), proof(0, 200, 0, 19)}, 2, api.ErrState},
		{"on the day of one that did not pass", []api.Proof{proof(0, 70, 1, 11), ok}, 0, api.OK},
		{"on the day after it", []api.Proof{proof(0, 70, 1, 11), proof(0, 71, 0, 10)}, 1, api.ErrState},
		{"on the day after it, of another class", []api.Proof{proof(0, 70, 1, 11), proof(1, 71, 0, 20)}, 0, api.OK},
		{"on the day after it, of a row put on later", []api.Proof{proof(0, 70, 1, 11), proof(0, 150, 0, 40)}, 0, api.OK},
		{"on the day before it was broken", []api.Proof{proof(0, 79, 0, 15)}, 0, api.OK},
		{"on the day on which it was broken", []api.Proof{proof(0, 80, 0, 15)}, 0, api.ErrState},
		{"on the day on which it was put on and broken", []api.Proof{proof(1, 50, 0, 20, 25)}, 0, api.ErrState},
		{"no row, before all", []api.Proof{proof(0, 70, 0, 9)}, 0, api.ErrNone},
		{"no row, the least number", []api.Proof{proof(0, 70, 0, 1)}, 0, api.ErrNone},
		{"no row, between two, on a later place", []api.Proof{proof(0, 70, 0, 10, 11, 30)}, 0, api.ErrNone},
		{"no row, of a later proof", []api.Proof{ok, proof(0, 71, 0, 10), proof(1, 72, 0, 20, api.MaxSeal)}, 2, api.ErrNone},
		{"no row, though twice", []api.Proof{proof(0, 70, 0, 9, 9)}, 0, api.ErrNone},
		{"of another class", []api.Proof{proof(0, 70, 0, 20)}, 0, api.ErrRefuse},
		{"of another class, on a later place", []api.Proof{ok, proof(1, 70, 0, 20, 21, 19)}, 1, api.ErrRefuse},
		{"of another class, and not in force", []api.Proof{proof(0, 10, 0, 20)}, 0, api.ErrRefuse},
		{"of another class, and broken", []api.Proof{proof(0, 70, 0, 25)}, 0, api.ErrRefuse},
		{"of another class, though twice", []api.Proof{proof(0, 70, 0, 20, 20)}, 0, api.ErrRefuse},
		{"twice in a proof", []api.Proof{proof(0, 70, 0, 10, 10)}, 0, api.ErrTwice},
		{"twice, on a later place", []api.Proof{ok, proof(0, 70, 0, 11, 12, 13, 11)}, 1, api.ErrTwice},
		{"in two proofs", []api.Proof{ok, proof(0, 70, 0, 10), proof(0, 80, 0, 10)}, 0, api.OK},
		{"not in force, though twice", []api.Proof{proof(0, 49, 0, 10, 10)}, 0, api.ErrState},
		{"not in force, before there is no row", []api.Proof{proof(0, 49, 0, 10, 9)}, 0, api.ErrState},
		{"twice, before there is no row", []api.Proof{proof(0, 70, 0, 10, 10, 9)}, 0, api.ErrTwice},
		{"of another class, before there is no row", []api.Proof{proof(0, 70, 0, 20, 9)}, 0, api.ErrRefuse},
		{"the one that comes first by its day", []api.Proof{proof(0, 90, 0, 9), proof(0, 80, 0, 20)}, 1, api.ErrRefuse},
		{"the one that comes first by its day, of three", []api.Proof{proof(0, 90, 0, 9), ok, proof(0, 30, 0, 10), proof(0, 80, 0, 20)}, 2, api.ErrState},
		{"the first one of a day", []api.Proof{proof(0, 90, 0, 9), proof(0, 80, 0, 20), proof(0, 80, 0, 9)}, 1, api.ErrRefuse},
		{"one that does not pass, and comes first", []api.Proof{proof(0, 75, 0, 10), proof(0, 70, 1, 11)}, 0, api.ErrState},
		{"one that would not pass, but is wrong", []api.Proof{proof(0, 80, 0, 10), proof(0, 70, 3, 11, 11)}, 1, api.ErrTwice},
	} {
		s := api.Stock{Classes: classes, Seals: rows, Broken: broken, Proofs: c.proofs}
		checkCheck(t, c.name, s, c.index, c.e)
		if c.e != api.OK {
			checkWrong(t, c.name, s, c.index, c.e)
			s.Broken = append(slices.Clone(broken), [2]int{10, 0})
			checkWrong(t, "a broken seal before "+c.name, s, 2, api.ErrOrder)
		}
	}
}

// P7.2: what each proof does to the end of a row, and to how often it was prolonged.
func TestEnd(t *testing.T) {
	twice := class(100, 2, 30, 1)
	pass, fail := func(day int) api.Proof { return proof(0, day, 1, 1, 2) }, func(day int) api.Proof { return proof(0, day, 3, 1, 2) }
	for _, c := range []struct {
		name       string
		class      api.Class
		proofs     []api.Proof
		day, times int
	}{
		{"no proof", twice, nil, 110, 0},
		{"one that passes", twice, []api.Proof{pass(50)}, 140, 1},
		{"one that passes with none that failed", twice, []api.Proof{proof(0, 50, 0, 1)}, 140, 1},
		{"one that passes with the last seal that failed", twice, []api.Proof{proof(0, 50, 4, 1, 2, 3)}, 140, 1},
		{"one that does not pass", twice, []api.Proof{fail(50)}, 51, 0},
		{"one that does not pass with the last two", twice, []api.Proof{proof(0, 50, 6, 1, 2, 3)}, 51, 0},
		{"one that does not pass, as none may fail", class(100, 2, 30, 0), []api.Proof{pass(50)}, 51, 0},
		{"all may fail", class(100, 2, 30, 20), []api.Proof{proof(0, 50, 511, 1, 2, 3, 4, 5, 6, 7, 8, 9)}, 140, 1},
		{"on the day of the row", twice, []api.Proof{pass(10)}, 140, 1},
		{"on the day of the row, it does not pass", twice, []api.Proof{fail(10)}, 11, 0},
		{"on the day before its end", twice, []api.Proof{pass(109)}, 140, 1},
		{"on the day before its end, it does not pass", twice, []api.Proof{fail(109)}, 110, 0},
		{"as often as the class allows", twice, []api.Proof{pass(50), pass(120)}, 170, 2},
		{"one that passes more", twice, []api.Proof{pass(50), pass(60), pass(70)}, 170, 2},
		{"three on a day", twice, []api.Proof{pass(50), pass(50), pass(50)}, 170, 2},
		{"four times, and once more", class(100, 4, 30, 1), []api.Proof{pass(10), pass(20), pass(30), pass(40), pass(50)}, 230, 4},
		{"none is allowed", class(100, 0, 30, 1), []api.Proof{pass(50)}, 110, 0},
		{"none is allowed, and it does not pass", class(100, 0, 30, 1), []api.Proof{pass(50), fail(60)}, 61, 0},
		{"prolonged, then not passed", twice, []api.Proof{pass(50), fail(120)}, 121, 1},
		{"prolonged as often as can be, then not passed", twice, []api.Proof{pass(50), pass(60), fail(70)}, 71, 2},
		{"passes, then does not, on a day", twice, []api.Proof{pass(50), fail(50)}, 51, 1},
		{"does not pass, then passes, on a day", twice, []api.Proof{fail(50), pass(50)}, 81, 1},
		{"does not pass twice on a day", twice, []api.Proof{fail(50), fail(50)}, 51, 0},
		{"does not pass, passes, and does not, on a day", twice, []api.Proof{fail(50), pass(50), fail(50)}, 51, 1},
		{"prolonged after it did not pass, and on", twice, []api.Proof{fail(50), pass(50), pass(80)}, 111, 2},
		{"as they come, not as they are listed", twice, []api.Proof{fail(120), pass(50)}, 121, 1},
		{"as they come, three of them", class(100, 1, 1, 1), []api.Proof{pass(110), fail(110), pass(109)}, 111, 1},
		{"the shortest term, on its only day", class(1, 1, 1, 1), []api.Proof{pass(10)}, 12, 1},
		{"the shortest term, and it does not pass", class(1, 1, 1, 1), []api.Proof{fail(10)}, 11, 0},
	} {
		s := oneRow(c.class, c.proofs...)
		checkCheck(t, c.name, s, 0, api.OK)
		for _, seal := range []int{1, 5, 9} {
			checkEnd(t, c.name, s, seal, c.day, c.times, api.OK)
		}
		for _, seal := range []int{0, 10, -1, math.MinInt, math.MaxInt} {
			checkEnd(t, c.name, s, seal, 0, 0, api.ErrNone)
		}
	}
}

// P7.2: which rows a proof prolongs, or sends back: those of its class that are in force on its day, whether it has seals of them or not.
func TestEndOfOtherRows(t *testing.T) {
	s := api.Stock{
		Classes: []api.Class{class(100, 1, 30, 0), class(100, 1, 30, 0)},
		Seals: []api.Seal{
			row(1, 9, 0, 10), row(10, 19, 1, 10), row(20, 29, 0, 50), row(30, 39, 0, 51), row(40, 40, 0, 49), row(41, 50, 0, 0),
		},
		Broken: [][2]int{{40, 50}, {11, 10}},
	}
	ends := func(name string, want ...[2]int) {
		t.Helper()
		for i, w := range want {
			checkEnd(t, name, s, s.Seals[i].From, w[0], w[1], api.OK)
			checkEnd(t, name, s, s.Seals[i].To, w[0], w[1], api.OK)
		}
	}
	ends("no proof", [2]int{110, 0}, [2]int{110, 0}, [2]int{150, 0}, [2]int{151, 0}, [2]int{149, 0}, [2]int{100, 0})
	s.Proofs = []api.Proof{proof(0, 50, 0, 1)}
	ends("passed", [2]int{140, 1}, [2]int{110, 0}, [2]int{180, 1}, [2]int{151, 0}, [2]int{179, 1}, [2]int{130, 1})
	s.Proofs = []api.Proof{proof(0, 50, 1, 1)}
	ends("not passed", [2]int{51, 0}, [2]int{110, 0}, [2]int{51, 0}, [2]int{151, 0}, [2]int{51, 0}, [2]int{51, 0})
	s.Proofs = []api.Proof{proof(0, 100, 0, 1)}
	ends("passed on an end", [2]int{140, 1}, [2]int{110, 0}, [2]int{180, 1}, [2]int{181, 1}, [2]int{179, 1}, [2]int{100, 0})
	s.Proofs = []api.Proof{proof(0, 100, 1, 1)}
	ends("not passed on an end", [2]int{101, 0}, [2]int{110, 0}, [2]int{101, 0}, [2]int{101, 0}, [2]int{101, 0}, [2]int{100, 0})
	s.Proofs = []api.Proof{proof(1, 109, 1, 10), proof(0, 99, 0, 1)}
	ends("two classes", [2]int{140, 1}, [2]int{110, 0}, [2]int{180, 1}, [2]int{181, 1}, [2]int{179, 1}, [2]int{130, 1})
}

// P7.2: an end may be greater than MaxDay.
func TestLateEnds(t *testing.T) {
	s := api.Stock{Classes: []api.Class{class(api.MaxTerm, api.MaxTimes, api.MaxTerm, 0)}, Seals: []api.Seal{row(5, 5, 0, api.MaxDay)}}
	checkEnd(t, "no proof", s, 5, api.MaxDay+api.MaxTerm, 0, api.OK)
	for range 6 {
		s.Proofs = append(s.Proofs, proof(0, api.MaxDay, 0, 5))
	}
	checkEnd(t, "six proofs", s, 5, api.MaxDay+5*api.MaxTerm, 4, api.OK)
	checkStatus(t, "six proofs", s, 5, api.MaxDay, api.Sealed, api.OK)
	checkCount(t, "six proofs", s, api.MaxDay-1, []int{1, 0, 0, 0}, api.OK)
	checkDue(t, "six proofs", s, span(0, api.MaxDay), []int{0}, api.OK)
	s.Proofs = append(s.Proofs, proof(0, api.MaxDay, 1, 5))
	checkEnd(t, "one that does not pass", s, 5, api.MaxDay+1, 4, api.OK)
	checkDue(t, "one that does not pass", s, span(0, api.MaxDay), []int{0}, api.OK)
}

// P7.3: how a seal stands, whenever it is broken.
func TestStatus(t *testing.T) {
	const never = -1
	for _, c := range []struct {
		name   string
		broken int
		days   map[int]int
	}{
		{"never broken", never, map[int]int{0: api.NotYet, 9: api.NotYet, 10: api.Sealed, 109: api.Sealed, 110: api.Over, api.MaxDay: api.Over}},
		{"on the day of its row", 10, map[int]int{0: api.NotYet, 9: api.NotYet, 10: api.Broken, 110: api.Broken, api.MaxDay: api.Broken}},
		{"a day later", 11, map[int]int{9: api.NotYet, 10: api.Sealed, 11: api.Broken, 110: api.Broken}},
		{"on the day before its end", 109, map[int]int{9: api.NotYet, 108: api.Sealed, 109: api.Broken, 110: api.Broken}},
		{"on its end", 110, map[int]int{9: api.NotYet, 109: api.Sealed, 110: api.Broken, 111: api.Broken}},
		{"after it", 112, map[int]int{9: api.NotYet, 109: api.Sealed, 110: api.Over, 111: api.Over, 112: api.Broken, api.MaxDay: api.Broken}},
	} {
		s := oneRow(class(100, 1, 30, 0))
		if c.broken != never {
			s.Broken = [][2]int{{4, c.broken}}
		}
		for day, want := range c.days {
			checkStatus(t, c.name, s, 4, day, want, api.OK)
		}
		checkStatus(t, "one beside it, "+c.name, s, 3, 109, api.Sealed, api.OK)
		checkStatus(t, "one beside it, "+c.name, s, 5, 110, api.Over, api.OK)
		for _, seal := range []int{0, 10, math.MinInt, math.MaxInt} {
			checkStatus(t, c.name, s, seal, 50, 0, api.ErrNone)
			checkStatus(t, c.name, s, seal, -1, 0, api.ErrNone)
		}
		for _, day := range []int{-1, api.MaxDay + 1, math.MinInt, math.MaxInt} {
			checkStatus(t, c.name, s, 4, day, 0, api.ErrRange)
		}
	}
	s := oneRow(class(100, 1, 30, 0), proof(0, 90, 1, 1))
	checkStatus(t, "the day of a proof that does not pass", s, 4, 90, api.Sealed, api.OK)
	checkStatus(t, "the day after it", s, 4, 91, api.Over, api.OK)
	checkStatus(t, "a day before it", s, 4, 89, api.Sealed, api.OK)
}

// P7.4: how many stand how, on the days on which something changes.
func TestCount(t *testing.T) {
	s := api.Stock{
		Classes: []api.Class{class(100, 1, 30, 0), class(50, 0, 1, 0)},
		Seals:   []api.Seal{row(1, 9, 0, 10), row(10, 29, 1, 20), row(30, 30, 0, 60)},
		Broken:  [][2]int{{29, 69}, {10, 20}, {30, 159}, {1, 141}, {11, 70}},
		Proofs:  []api.Proof{proof(0, 109, 0, 1)},
	}
	for day, want := range map[int][]int{
		0: {30, 0, 0, 0}, 9: {30, 0, 0, 0}, 10: {21, 9, 0, 0}, 19: {21, 9, 0, 0},
		20: {1, 28, 0, 1}, 59: {1, 28, 0, 1}, 60: {0, 29, 0, 1}, 68: {0, 29, 0, 1}, 69: {0, 28, 0, 2},
		70: {0, 10, 17, 3}, 139: {0, 10, 17, 3}, 140: {0, 1, 26, 3}, 141: {0, 1, 25, 4},
		158: {0, 1, 25, 4}, 159: {0, 0, 25, 5}, 190: {0, 0, 25, 5}, api.MaxDay: {0, 0, 25, 5},
	} {
		checkCount(t, "three rows", s, day, want, api.OK)
	}
	checkCount(t, "one seal alone", api.Stock{Classes: s.Classes, Seals: []api.Seal{row(7, 7, 1, 0)}}, 0, []int{0, 1, 0, 0}, api.OK)
	checkCount(t, "all numbers", api.Stock{Classes: s.Classes, Seals: []api.Seal{row(1, api.MaxSeal, 1, 0)}, Broken: [][2]int{{api.MaxSeal, 7}}}, 7, []int{0, api.MaxSeal - 1, 0, 1}, api.OK)
	for _, empty := range []api.Stock{{}, {Classes: s.Classes}} {
		checkCount(t, "no seals", empty, 0, []int{0, 0, 0, 0}, api.OK)
		checkCount(t, "no seals", empty, api.MaxDay, []int{0, 0, 0, 0}, api.OK)
	}
	for _, day := range []int{-1, api.MaxDay + 1, math.MinInt, math.MaxInt} {
		checkCount(t, "no day", s, day, nil, api.ErrRange)
		checkCount(t, "no day", api.Stock{}, day, nil, api.ErrRange)
	}
}

// P7.5: how many have their end when, and which broken seals still do.
func TestDue(t *testing.T) {
	s := api.Stock{
		Classes: []api.Class{class(100, 1, 30, 0), class(50, 0, 1, 0), class(9, 0, 9, 0)},
		Seals:   []api.Seal{row(1, 9, 0, 10), row(10, 29, 1, 20), row(30, 30, 0, 60), row(31, 40, 1, 21)},
		Broken:  [][2]int{{10, 20}, {11, 69}, {12, 70}, {13, 71}, {31, 70}, {32, api.MaxDay}, {30, 160}},
	}
	for _, c := range []struct {
		days api.Span
		want []int
	}{
		{span(0, 69), []int{0, 0, 0}},
		{span(70, 70), []int{0, 17, 0}},
		{span(69, 70), []int{0, 17, 0}},
		{span(71, 71), []int{0, 9, 0}},
		{span(70, 71), []int{0, 26, 0}},
		{span(71, 72), []int{0, 9, 0}},
		{span(72, 109), []int{0, 0, 0}},
		{span(110, 110), []int{9, 0, 0}},
		{span(111, 159), []int{0, 0, 0}},
		{span(160, 160), []int{0, 0, 0}},
		{span(0, api.MaxDay), []int{9, 26, 0}},
		{span(api.MaxDay, api.MaxDay), []int{0, 0, 0}},
	} {
		checkDue(t, "four rows", s, c.days, c.want, api.OK)
	}
	s.Broken = s.Broken[:6]
	checkDue(t, "one seal alone", s, span(160, 160), []int{1, 0, 0}, api.OK)
	s.Proofs = []api.Proof{proof(0, 109, 0, 30)}
	checkDue(t, "the end that is prolonged", s, span(110, 110), []int{0, 0, 0}, api.OK)
	checkDue(t, "the ends to which it is", s, span(140, 190), []int{10, 0, 0}, api.OK)
	s.Proofs = []api.Proof{proof(0, 109, 1, 30)}
	checkDue(t, "all go back", s, span(110, 110), []int{10, 0, 0}, api.OK)
	s.Seals, s.Broken, s.Proofs = []api.Seal{row(1, api.MaxSeal, 2, 0)}, nil, nil
	checkDue(t, "all numbers", s, span(9, 9), []int{0, 0, api.MaxSeal}, api.OK)
	checkDue(t, "no classes", api.Stock{}, span(0, api.MaxDay), nil, api.OK)
	for _, days := range []api.Span{span(-1, 5), span(5, 4), span(5, api.MaxDay+1), span(-2, -1), span(api.MaxDay+1, api.MaxDay+1), span(math.MinInt, math.MaxInt), span(math.MaxInt, math.MinInt), span(api.MaxDay, 0)} {
		checkDue(t, "no days", s, days, nil, api.ErrRange)
		checkDue(t, "no days", api.Stock{}, days, nil, api.ErrRange)
	}
}
