package term_test

import (
	"math"
	"math/rand"
	"reflect"
	"slices"
	"testing"

	"meterworks/api"
	"meterworks/term"
)

// ErrArg comes first: stocks that are not valid, with all that is checked later wrong, too.
func TestWrongStocks(t *testing.T) {
	wrong := map[string]func(s *api.Stock){
		"too many classes":            func(s *api.Stock) { s.Classes = manyOf(api.MaxClasses+1, class(1, 0, 1, 0)) },
		"Term 0":                      func(s *api.Stock) { s.Classes[0].Term = 0 },
		"Term too great":              func(s *api.Stock) { s.Classes[1].Term = api.MaxTerm + 1 },
		"Term far too little":         func(s *api.Stock) { s.Classes[1].Term = math.MinInt },
		"More 0":                      func(s *api.Stock) { s.Classes[0].More = 0 },
		"More too great":              func(s *api.Stock) { s.Classes[1].More = api.MaxTerm + 1 },
		"Times below 0":               func(s *api.Stock) { s.Classes[0].Times = -1 },
		"Times too great":             func(s *api.Stock) { s.Classes[1].Times = api.MaxTimes + 1 },
		"Fail below 0":                func(s *api.Stock) { s.Classes[0].Fail = -1 },
		"Fail too great":              func(s *api.Stock) { s.Classes[1].Fail = api.MaxSample + 1 },
		"too many rows":               func(s *api.Stock) { s.Seals = manyOf(api.MaxSeals+1, row(1, 1, 0, 0)) },
		"From 0":                      func(s *api.Stock) { s.Seals[0].From = 0 },
		"From far too little":         func(s *api.Stock) { s.Seals[2].From = math.MinInt },
		"From greater than To":        func(s *api.Stock) { s.Seals[1] = row(150, 149, 1, 20) },
		"To too great":                func(s *api.Stock) { s.Seals[2].To = api.MaxSeal + 1 },
		"a row's class below 0":       func(s *api.Stock) { s.Seals[0].Class = -1 },
		"a row's class there is not":  func(s *api.Stock) { s.Seals[2].Class = 2 },
		"a row without classes":       func(s *api.Stock) { s.Classes, s.Proofs = nil, nil },
		"a row before the first day":  func(s *api.Stock) { s.Seals[0].Day = -1 },
		"a row after the last day":    func(s *api.Stock) { s.Seals[2].Day = api.MaxDay + 1 },
		"too many proofs":             func(s *api.Stock) { s.Proofs = manyOf(api.MaxProofs+1, proof(0, 900, 0, 5)) },
		"a proof's class below 0":     func(s *api.Stock) { s.Proofs[0].Class = -1 },
		"a proof's class is not":      func(s *api.Stock) { s.Proofs[2].Class = 2 },
		"a proof without classes":     func(s *api.Stock) { s.Classes, s.Seals = nil, nil },
		"a proof before all days":     func(s *api.Stock) { s.Proofs[0].Day = -1 },
		"a proof after all days":      func(s *api.Stock) { s.Proofs[2].Day = api.MaxDay + 1 },
		"a proof of no seals":         func(s *api.Stock) { s.Proofs[1] = proof(1, 300, 0) },
		"a proof of too many":         func(s *api.Stock) { s.Proofs[0].Seals, s.Proofs[0].Failed = upTo(1, 21), 0 },
		"Failed below 0":              func(s *api.Stock) { s.Proofs[0].Failed = -1 },
		"Failed far below 0":          func(s *api.Stock) { s.Proofs[0].Failed = math.MinInt },
		"Failed of one more":          func(s *api.Stock) { s.Proofs[0].Failed = 8 },
		"Failed of one more than one": func(s *api.Stock) { s.Proofs[2].Failed = 2 },
		"Failed of far more":          func(s *api.Stock) { s.Proofs[2].Failed = math.MaxInt },
		"a proof of the seal 0":       func(s *api.Stock) { s.Proofs[2].Seals[0] = 0 },
		"a proof of a seal too great": func(s *api.Stock) { s.Proofs[1].Seals[1] = api.MaxSeal + 1 },
		"a proof of far too little":   func(s *api.Stock) { s.Proofs[0].Seals[2] = math.MinInt },
		"a proof of far too great":    func(s *api.Stock) { s.Proofs[0].Seals[1] = math.MaxInt },
		"too many broken seals":       func(s *api.Stock) { s.Broken = manyOf(api.MaxBroken+1, [2]int{50, 1000}) },
		"the seal 0 broken":           func(s *api.Stock) { s.Broken[1][0] = 0 },
		"a seal below 0 broken":       func(s *api.Stock) { s.Broken[0][0] = -1 },
		"a seal too great broken":     func(s *api.Stock) { s.Broken[0][0] = api.MaxSeal + 1 },
		"far too little broken":       func(s *api.Stock) { s.Broken[1][0] = math.MinInt },
		"far too great broken":        func(s *api.Stock) { s.Broken[0][0] = math.MaxInt },
		"broken before all days":      func(s *api.Stock) { s.Broken[0][1] = -1 },
		"broken after all days":       func(s *api.Stock) { s.Broken[1][1] = api.MaxDay + 1 },
	}
	for name, change := range wrong {
		s := changed(change)
		checkWrong(t, name, s, 0, api.ErrArg)
		spoil(&s)
		checkWrong(t, "spoilt, "+name, s, 0, api.ErrArg)
	}
	s := exampleStock()
	spoil(&s)
	checkWrong(t, "spoilt alone", s, 1, api.ErrTwice)
}

// spoil makes each check find something in the example's stock, with some change.
func spoil(s *api.Stock) {
	if len(s.Seals) > 1 {
		s.Seals[0].To = 150
	}
	if len(s.Broken) == 2 {
		s.Broken = append(s.Broken, [2]int{999, 5})
	}
	if len(s.Proofs) == 3 {
		s.Proofs = append(s.Proofs, proof(0, 5, 0, 999))
	}
}

func manyOf[T any](n int, x T) []T { return slices.Repeat([]T{x}, n) }

func upTo(from, to int) []int {
	var out []int
	for n := from; n <= to; n++ {
		out = append(out, n)
	}
	return out
}

// fullStock returns a stock with as many of all as there can be, at their limits: each row has 10 seals, one of which is broken.
func fullStock() api.Stock {
	s := api.Stock{Classes: manyOf(api.MaxClasses, class(api.MaxTerm, api.MaxTimes, api.MaxTerm, api.MaxSample))}
	for i := range api.MaxSeals {
		s.Seals = append(s.Seals, row(10*i+1, 10*i+10, api.MaxClasses-1, api.MaxDay-i))
		s.Broken = append(s.Broken, [2]int{10*i + 10, api.MaxDay})
	}
	s.Seals[0] = row(api.MaxSeal-9, api.MaxSeal, 0, 0)
	s.Broken[0] = [2]int{api.MaxSeal, 0}
	for i := range api.MaxProofs {
		seals := append(upTo(api.MaxSeal-9, api.MaxSeal-1), upTo(1, 11)...)
		if i > 0 {
			seals = append(upTo(211, 219), upTo(221, 229)...)
			seals = append(seals, 231, 232)
		}
		s.Proofs = append(s.Proofs, proof(api.MaxClasses-1, api.MaxDay-1, 1<<api.MaxSample-1, seals...))
	}
	s.Proofs[0] = proof(0, 0, 1<<9-1, upTo(api.MaxSeal-9, api.MaxSeal-1)...)
	return s
}

// All limits are reached, and none is passed.
func TestFullStock(t *testing.T) {
	s := fullStock()
	checkCheck(t, "full", s, 0, api.OK)
	checkEnd(t, "full", s, api.MaxSeal, 2*api.MaxTerm, 1, api.OK)
	checkEnd(t, "full", s, 11, api.MaxDay-1+5*api.MaxTerm, 4, api.OK)
	checkEnd(t, "full", s, 240, api.MaxDay-23+5*api.MaxTerm, 4, api.OK)
	checkCount(t, "full", s, 0, []int{230, 9, 0, 1}, api.OK)
	checkCount(t, "full", s, api.MaxDay-1, []int{0, 230, 9, 1}, api.OK)
	checkCount(t, "full", s, api.MaxDay, []int{0, 207, 9, 24}, api.OK)
	checkDue(t, "full", s, span(2*api.MaxTerm, api.MaxDay), []int{9, 0, 0, 0, 0}, api.OK)
	s.Seals[23].Day = api.MaxDay
	checkWrong(t, "the last row later", s, 1, api.ErrState)
	s.Proofs = s.Proofs[:1]
	checkCheck(t, "without the other proofs", s, 0, api.OK)
	s.Broken[23][1] = api.MaxDay - 1
	checkWrong(t, "the last broken seal earlier", s, 23, api.ErrOrder)
	s.Seals[23].To = api.MaxSeal
	checkWrong(t, "the last row longer", s, 23, api.ErrTwice)
}

// P7.1 and R3: what is empty, or nil, is right.
func TestEmptyStocks(t *testing.T) {
	for _, s := range []api.Stock{
		{},
		{Classes: []api.Class{}, Seals: []api.Seal{}, Proofs: []api.Proof{}, Broken: [][2]int{}},
		{Classes: manyOf(api.MaxClasses, class(1, 0, 1, 0))},
		{Classes: []api.Class{class(api.MaxTerm, api.MaxTimes, api.MaxTerm, api.MaxSample)}},
	} {
		checkCheck(t, "empty", s, 0, api.OK)
		checkEnd(t, "empty", s, 1, 0, 0, api.ErrNone)
		checkStatus(t, "empty", s, 1, -1, 0, api.ErrNone)
		checkCount(t, "empty", s, 5, []int{0, 0, 0, 0}, api.OK)
		checkDue(t, "empty", s, span(0, 5), make([]int, len(s.Classes)), api.OK)
	}
}

// P7.1 to P7.5: a number that a row can have, but none has, is ErrNone; any other one makes the stock not valid, also without rows.
func TestNumbersAlone(t *testing.T) {
	for n, e := range map[int]api.Errno{
		1: api.ErrNone, api.MaxSeal: api.ErrNone,
		0: api.ErrArg, -1: api.ErrArg, math.MinInt: api.ErrArg, api.MaxSeal + 1: api.ErrArg, math.MaxInt: api.ErrArg,
	} {
		checkWrong(t, "a broken seal alone", api.Stock{Broken: [][2]int{{n, 0}}}, 0, e)
		checkWrong(t, "a proof alone", api.Stock{Classes: []api.Class{class(1, 0, 1, 0)}, Proofs: []api.Proof{proof(0, 0, 0, n)}}, 0, e)
	}
}

// clone returns a stock that shares no memory with another one.
func clone(s api.Stock) api.Stock {
	s.Classes, s.Seals, s.Broken, s.Proofs = slices.Clone(s.Classes), slices.Clone(s.Seals), slices.Clone(s.Broken), slices.Clone(s.Proofs)
	for i := range s.Proofs {
		s.Proofs[i].Seals = slices.Clone(s.Proofs[i].Seals)
	}
	return s
}

// P7.6: arguments are only read, also behind their ends, and results are new.
func TestMemory(t *testing.T) {
	whole := exampleStock()
	whole.Seals = append(whole.Seals, row(300, 310, 0, 5))
	whole.Proofs = append(whole.Proofs, proof(0, 5, 0, 1))
	whole.Broken = append(whole.Broken, [2]int{300, 5})
	before := clone(whole)
	s := whole
	s.Classes, s.Seals, s.Proofs, s.Broken = s.Classes[:2], s.Seals[:3], s.Proofs[:3], s.Broken[:2]
	s.Proofs[1].Seals = s.Proofs[1].Seals[:1:2]
	s.Proofs[1].Failed = 1
	before.Proofs[1].Seals, before.Proofs[1].Failed = before.Proofs[1].Seals[:1], 1
	term.Check(s)
	term.End(s, 7)
	term.Status(s, 7, 9)
	counts, _ := term.Count(s, 1000)
	dues, _ := term.Due(s, span(300, 1310))
	if !reflect.DeepEqual(whole, before) || whole.Proofs[1].Seals[:2][1] != 120 {
		t.Error("the stock has changed", whole)
	}
	for _, l := range [][]int{counts, dues} {
		l = l[:cap(l)]
		for i := range l {
			l[i] = -7
		}
	}
	checkCount(t, "after a result was changed", s, 1000, []int{0, 109, 49, 2}, api.OK)
	checkDue(t, "after a result was changed", s, span(300, 1310), []int{99, 49}, api.OK)
	s.Seals[0].Day, s.Broken[0][1] = 9, 999
	checkEnd(t, "after the stock was changed", s, 7, 1309, 1, api.OK)
	checkStatus(t, "after the stock was changed", s, 50, 999, api.Broken, api.OK)
}

// P1 and R2: whatever the arguments are, each function ends, and with an error all other results but Check's index are zero values.
func TestAnyArguments(t *testing.T) {
	r := rand.New(rand.NewSource(1))
	wild := []int{math.MinInt, math.MinInt + 1, -2, -1, 0, 1, 2, 5, 20, 21, api.MaxTerm, api.MaxTerm + 1, api.MaxDay, api.MaxDay + 1, api.MaxSeal, api.MaxSeal + 1, math.MaxInt - 1, math.MaxInt}
	anyInt := func() int {
		if r.Intn(40) > 0 {
			return 1 + r.Intn(5)
		}
		return wild[r.Intn(len(wild))]
	}
	count := func(most int) int { return r.Intn(2 + r.Intn(most+1)) }
	seen := map[api.Errno]int{}
	for range 60_000 {
		var s api.Stock
		for range count(api.MaxClasses) {
			s.Classes = append(s.Classes, class(anyInt(), anyInt()-1, anyInt(), anyInt()))
		}
		for range count(4) {
			from := anyInt()
			s.Seals = append(s.Seals, row(from, from+r.Intn(3), anyInt()/2-1, anyInt()))
		}
		for range count(4) {
			s.Proofs = append(s.Proofs, proof(anyInt()/2-1, anyInt(), anyInt()-1, manyOf(r.Intn(3), anyInt())...))
		}
		for range count(4) {
			s.Broken = append(s.Broken, [2]int{anyInt(), anyInt()})
		}
		index, e1 := term.Check(s)
		day, times, e2 := term.End(s, anyInt())
		stands, e3 := term.Status(s, anyInt(), anyInt())
		counts, e4 := term.Count(s, anyInt())
		dues, e5 := term.Due(s, span(anyInt(), anyInt()))
		seen[e1]++
		if e2 != api.OK && (day != 0 || times != 0) || e3 != api.OK && stands != 0 || e4 != api.OK && len(counts) > 0 || e5 != api.OK && len(dues) > 0 || (e1 == api.OK || e1 == api.ErrArg) && index != 0 {
			t.Fatal(s, index, e1, day, times, e2, stands, e3, counts, e4, dues, e5)
		}
		if e1 != api.OK && (e2 != e1 || e3 != e1 || e4 != e1 || e5 != e1) {
			t.Fatal(s, "has the errors", e1, e2, e3, e4, e5)
		}
	}
	for _, e := range []api.Errno{api.OK, api.ErrArg, api.ErrNone, api.ErrTwice, api.ErrOrder} {
		if seen[e] < 200 {
			t.Error("the stocks are too much alike", seen)
		}
	}
}
