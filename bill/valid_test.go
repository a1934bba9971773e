package bill_test

import (
	"math"
	"slices"
	"testing"

	"meterworks/api"
	"meterworks/bill"
)

// wild are numbers that are no days.
var wild = []int{math.MinInt, math.MinInt + 1, -1 << 41, -2, -1, api.MaxDay + 1, api.MaxDay + 2, 1 << 41, math.MaxInt - 1, math.MaxInt}

// checkFirst checks that each function returns an error, whatever else it is given.
func checkFirst(t *testing.T, name string, a api.Account, e api.Errno) {
	t.Helper()
	t.Run(name, func(t *testing.T) {
		t.Helper()
		checkBills(t, a, nil, e)
		for _, n := range append([]int{0, 1, 30, 90, api.MaxDay}, wild...) {
			for _, day := range []int{90, n} {
				checkUsed(t, a, day, n, 0, e)
				checkUsed(t, a, n, day, 0, e)
				checkCost(t, a, day, n, 0, e)
				checkCost(t, a, n, day, 0, e)
			}
			checkOwed(t, a, n, 0, e)
			checkSettle(t, a, n, 0, e)
		}
	})
}

// bases are accounts that are valid: the one of the chapter, one that is not in order, one with notes that contradict each other, and one with nothing in its lists but a tariff.
func bases() []api.Account {
	back := example()
	back.Notes = append(back.Notes, note(25, 999, 25))
	twice := example()
	twice.Notes = append(twice.Notes, note(50, 31001, 55))
	return []api.Account{example(), back, twice, {Tariffs: tariffs(0, 300)}}
}

// badNumbers change an account to one whose numbers are not valid.
func badNumbers() map[string]func(*api.Account) {
	out := map[string]func(*api.Account){}
	set := func(what string, of func(*api.Account) *int, most int) {
		for name, n := range map[string]int{"below 0": -1, "far below 0": math.MinInt, "too great": most + 1, "far too great": math.MaxInt} {
			out[what+" "+name] = func(a *api.Account) { *of(a) = n }
		}
	}
	set("Figure", func(a *api.Account) *int { return &a.Figure }, api.MaxLitres)
	set("Daily", func(a *api.Account) *int { return &a.Daily }, api.MaxDaily)
	set("Standing", func(a *api.Account) *int { return &a.Standing }, api.MaxStanding)
	set("Pence of the first tariff", func(a *api.Account) *int { return &a.Tariffs[0].Pence }, api.MaxPrice)
	for name, n := range map[string]int{"before day 0": -1, "far before day 0": math.MinInt, "after the last day": api.MaxDay + 1, "far after it": math.MaxInt} {
		out["Start "+name] = func(a *api.Account) {
			// Nothing else is wrong with these.
			a.Start, a.Bills, a.Notes, a.Disputes = n, nil, nil, nil
		}
	}
	for name, n := range map[string]int{"below 0": -1, "of the next day": 1, "of another day": 30, "far below 0": math.MinInt, "far above 0": math.MaxInt} {
		out["the first From "+name] = func(a *api.Account) { a.Tariffs = tariffs(n, 300) }
	}
	out["no tariffs"] = func(a *api.Account) { a.Tariffs = nil }
	out["an empty list of tariffs"] = func(a *api.Account) { a.Tariffs = []api.Tariff{} }
	out["too many tariffs"] = func(a *api.Account) { a.Tariffs = tariffs(0, 1, 1, 1, 2, 1, 3, 1, 4, 1, 5, 1, 6, 1) }
	return out
}

// badTariffs are tariffs that cannot be the last one after one from the day 60 on.
func badTariffs() map[string]api.Tariff {
	return map[string]api.Tariff{
		"of the same day":        {From: 60, Pence: 300},
		"of the day before":      {From: 59, Pence: 300},
		"from 0":                 {From: 0, Pence: 300},
		"before day 0":           {From: -1, Pence: 300},
		"far before day 0":       {From: math.MinInt, Pence: 300},
		"after the last day":     {From: api.MaxDay + 1, Pence: 300},
		"far after the last day": {From: math.MaxInt, Pence: 300},
		"below 0":                {From: 61, Pence: -1},
		"far below 0":            {From: 61, Pence: math.MinInt},
		"too dear":               {From: 61, Pence: api.MaxPrice + 1},
		"far too dear":           {From: 61, Pence: math.MaxInt},
	}
}

// badNotes are notes that are not valid in an account that starts on the day 10.
func badNotes() map[string]api.Note {
	return map[string]api.Note{
		"of the Start":             note(10, 31000, 55),
		"before the Start":         note(9, 31000, 55),
		"of day 0":                 note(0, 31000, 55),
		"before day 0":             note(-1, 31000, 55),
		"far before day 0":         note(math.MinInt, 31000, 55),
		"came the day before":      note(50, 31000, 49),
		"came before the Start":    note(50, 31000, 9),
		"came before day 0":        note(50, 31000, -1),
		"came far before day 0":    note(50, 31000, math.MinInt),
		"came after the last day":  note(50, 31000, api.MaxDay+1),
		"came far after it":        note(50, 31000, math.MaxInt),
		"after the last day":       note(api.MaxDay+1, 31000, api.MaxDay+1),
		"after all days":           note(math.MaxInt, 31000, math.MaxInt),
		"after the day it came":    note(math.MaxInt, 31000, 55),
		"below 0":                  note(50, -1, 55),
		"far below 0":              note(50, math.MinInt, 55),
		"too great":                note(50, api.MaxLitres+1, 55),
		"far too great":            note(50, math.MaxInt, 55),
		"too great and not known":  note(50, api.MaxLitres+1, api.MaxDay),
		"too great and of day max": note(api.MaxDay, api.MaxLitres+1, api.MaxDay),
	}
}

// badDisputes are disputes that are not valid after one from the day 20 to 50, in an account that starts on the day 10.
func badDisputes() map[string]api.Dispute {
	out := map[string]api.Dispute{}
	set := func(name string, change func(*api.Dispute)) {
		d := tested(90, 60, 70, 100)
		change(&d)
		out[name] = d
	}
	ends := map[string]int{"before day 0": -1, "far before day 0": math.MinInt, "after the last day": api.MaxDay + 1, "far after it": math.MaxInt}
	for name, n := range ends {
		set("Day "+name, func(d *api.Dispute) { d.Day = n })
		set("From "+name, func(d *api.Dispute) { d.From = n })
		set("To "+name, func(d *api.Dispute) { d.To = n })
		set("all "+name, func(d *api.Dispute) { d.From, d.To, d.Day = n, n, n })
	}
	set("all after the last day", func(d *api.Dispute) { d.From, d.To, d.Day = api.MaxDay, api.MaxDay+1, api.MaxDay+1 })
	set("tested before To", func(d *api.Dispute) { d.Day = 69 })
	set("tested before From", func(d *api.Dispute) { d.Day = 59 })
	set("of no days", func(d *api.Dispute) { d.To = 60 })
	set("the wrong way", func(d *api.Dispute) { d.To = 59 })
	set("too great an Error", func(d *api.Dispute) { d.Error = api.MaxThou + 1 })
	set("too little an Error", func(d *api.Dispute) { d.Error = -api.MaxThou - 1 })
	set("an Error of all", func(d *api.Dispute) { d.Error = -1000 })
	set("far too great an Error", func(d *api.Dispute) { d.Error = math.MaxInt })
	set("far too little an Error", func(d *api.Dispute) { d.Error = math.MinInt })
	set("Allowed below 0", func(d *api.Dispute) { d.Allowed = -1 })
	set("Allowed far below 0", func(d *api.Dispute) { d.Allowed = math.MinInt })
	set("too great an Allowed", func(d *api.Dispute) { d.Allowed = api.MaxThou + 1 })
	set("far too great an Allowed", func(d *api.Dispute) { d.Allowed = math.MaxInt })
	set("a Fee below 0", func(d *api.Dispute) { d.Fee = -1 })
	set("a Fee far below 0", func(d *api.Dispute) { d.Fee = math.MinInt })
	set("too great a Fee", func(d *api.Dispute) { d.Fee = api.MaxFee + 1 })
	set("far too great a Fee", func(d *api.Dispute) { d.Fee = math.MaxInt })
	set("before the other's To", func(d *api.Dispute) { d.From = 49 })
	set("before the other", func(d *api.Dispute) { d.From, d.To = 10, 20 })
	set("before the Start", func(d *api.Dispute) { d.From = 9 })
	return out
}

// ErrArg comes first: numbers of accounts and tariffs that are not valid.
func TestNotValidNumbers(t *testing.T) {
	checkFirst(t, "nothing", api.Account{}, api.ErrArg)
	for _, a := range bases() {
		for name, change := range badNumbers() {
			checkFirst(t, name, with(a, change), api.ErrArg)
		}
		for name, bad := range badTariffs() {
			other := clone(a)
			other.Tariffs = append(tariffs(0, 300, 60, 400), bad)
			checkFirst(t, "a tariff "+name, other, api.ErrArg)
			// After one that is valid all the same.
			other.Tariffs = append(other.Tariffs, tariffs(70, 300)...)
			checkFirst(t, "a tariff in the middle "+name, other, api.ErrArg)
		}
	}
}

// ErrArg comes first: lists of bills, notes and disputes that are not valid.
func TestNotValidLists(t *testing.T) {
	for _, a := range bases() {
		for name, bills := range map[string][]int{
			"on the Start": {10}, "before the Start": {9}, "on day 0": {0}, "before day 0": {-1}, "far before day 0": {math.MinInt},
			"after the last day": {api.MaxDay + 1}, "far after the last day": {math.MaxInt}, "one after the last day": {11, 12, api.MaxDay + 1},
			"twice on a day": {30, 30}, "back": {30, 29}, "back at last": {30, 60, 90, 89}, "twice at last": {30, 60, 90, 90}, "the first one on the Start": {10, 20},
			"too many": {11, 12, 13, 14, 15, 16, 17, 18, 19, 20, 21, 22, 23},
		} {
			checkFirst(t, "bills "+name, with(a, func(a *api.Account) { a.Start, a.Bills = 10, bills }), api.ErrArg)
		}
		for name, bad := range badNotes() {
			checkFirst(t, "only a note "+name, with(a, func(a *api.Account) { a.Start, a.Notes = 10, []api.Note{bad} }), api.ErrArg)
			for i := range len(a.Notes) + 1 {
				checkFirst(t, "a note "+name, with(a, func(a *api.Account) { a.Start, a.Notes = 10, slices.Insert(a.Notes, i, bad) }), api.ErrArg)
			}
		}
		checkFirst(t, "too many notes", with(a, func(a *api.Account) { a.Notes = slices.Repeat(notes(50, 31000, 55), api.MaxNotes+1) }), api.ErrArg)
		for name, bad := range badDisputes() {
			checkFirst(t, "a dispute "+name, with(a, func(a *api.Account) {
				a.Start, a.Disputes = 10, []api.Dispute{tested(85, 20, 50, 100), bad}
			}), api.ErrArg)
		}
		checkFirst(t, "the first dispute before the Start", with(a, func(a *api.Account) { a.Start, a.Disputes = 10, []api.Dispute{tested(85, 9, 50, 100)} }), api.ErrArg)
		checkFirst(t, "too many disputes", with(a, func(a *api.Account) {
			a.Disputes = []api.Dispute{tested(85, 20, 21, 1), tested(85, 21, 22, 1), tested(85, 22, 23, 1), tested(85, 23, 24, 1), tested(85, 24, 25, 1)}
		}), api.ErrArg)
	}
}

// ErrTwice comes second: notes of the same day that came together, and show another figure.
func TestTwice(t *testing.T) {
	for name, l := range map[string][]api.Note{
		"one more":                   notes(50, 31000, 55, 50, 31001, 55),
		"one less":                   notes(50, 31000, 55, 50, 30999, 55),
		"with others between":        notes(50, 31000, 55, 20, 9000, 65, 50, 31001, 55),
		"the last ones":              notes(20, 9000, 65, 50, 31000, 55, 50, 31001, 55),
		"after one that is twice":    notes(50, 31000, 55, 50, 31000, 55, 50, 31001, 55),
		"before one that is twice":   notes(50, 31001, 55, 50, 31000, 55, 50, 31000, 55),
		"that never count":           notes(50, 31000, 55, 50, 31001, 55, 50, 32000, 56),
		"that came on the last day":  notes(50, 31000, api.MaxDay, 50, 31001, api.MaxDay),
		"of the last day":            notes(api.MaxDay, 31000, api.MaxDay, api.MaxDay, 31001, api.MaxDay),
		"that are not in order":      notes(20, 31000, 20, 50, 1000, 55, 50, 1001, 55),
		"of the first day and least": notes(1, 0, 1, 1, 1, 1),
	} {
		a := example()
		a.Notes = l
		checkFirst(t, name, a, api.ErrTwice)
	}
	for name, l := range map[string][]api.Note{
		"the same":              notes(50, 31000, 55, 50, 31000, 55),
		"came on another day":   notes(50, 31000, 55, 50, 31001, 56),
		"of another day":        notes(50, 31000, 55, 51, 31001, 55),
		"each the other's Came": notes(50, 31000, 55, 55, 31001, 55),
	} {
		t.Run(name, func(t *testing.T) {
			a := example()
			a.Notes = l
			if used, e := bill.Used(a, 50, 55); used != 30000 || e != api.OK {
				t.Error("Used", a, 50, 55, "is", used, e)
			}
		})
	}
}

// ErrRange comes third: days that are none, or are before the Start, and disputes that are none, before ErrOrder.
func TestRange(t *testing.T) {
	back := example()
	back.Notes = append(back.Notes, note(25, 999, 25))
	late := with(back, func(a *api.Account) { a.Start, a.Bills = 10, nil })
	for _, a := range []api.Account{example(), back, late} {
		for _, n := range wild {
			for _, day := range []int{n, 15, 30, api.MaxDay} {
				checkUsed(t, a, day, n, 0, api.ErrRange)
				checkUsed(t, a, n, day, 0, api.ErrRange)
				checkCost(t, a, day, n, 0, api.ErrRange)
				checkCost(t, a, n, day, 0, api.ErrRange)
			}
			checkOwed(t, a, n, 0, api.ErrRange)
			checkSettle(t, a, n, 0, api.ErrRange)
		}
		for _, n := range []int{1, 2, api.MaxDisputes} {
			checkSettle(t, a, n, 0, api.ErrRange)
		}
	}
	for _, day := range []int{0, 1, 9} {
		for _, known := range []int{0, 9, 10, 25, 90} {
			checkUsed(t, late, day, known, 0, api.ErrRange)
			checkCost(t, late, day, known, 0, api.ErrRange)
		}
		checkOwed(t, late, day, 0, api.ErrRange)
		// What is known on a day before the Start is the Start alone.
		checkUsed(t, late, 12, day, 1000, api.OK)
		checkCost(t, late, 12, day, 304, api.OK)
	}
	checkOwed(t, late, 10, 0, api.OK)
	checkUsed(t, late, 10, 10, 0, api.OK)
	checkSettle(t, plain(), 0, 0, api.ErrRange)
}

// ErrOrder comes last: figures that are less than that of a point before.
func TestOrderOfPoints(t *testing.T) {
	for name, c := range map[string]struct {
		notes []api.Note
		e     api.Errno
	}{
		"none":                          {nil, api.OK},
		"as much":                       {notes(20, 1000, 20, 30, 1000, 30), api.OK},
		"more and more":                 {notes(20, 1001, 20, 30, 1002, 30), api.OK},
		"in another order":              {notes(30, 1002, 30, 20, 1001, 20), api.OK},
		"less than the Start":           {notes(20, 999, 20), api.ErrOrder},
		"nothing":                       {notes(20, 0, 20), api.ErrOrder},
		"less than the note before":     {notes(20, 1100, 20, 30, 1099, 30), api.ErrOrder},
		"less, in another order":        {notes(30, 1099, 30, 20, 1100, 20), api.ErrOrder},
		"only the last one":             {notes(20, 1100, 20, 30, 1200, 30, 40, 1199, 40), api.ErrOrder},
		"only the one in the middle":    {notes(20, 1100, 20, 30, 1050, 30, 40, 1300, 40), api.ErrOrder},
		"less than one long before":     {notes(20, 1100, 20, 30, 1050, 30, 40, 1060, 40), api.ErrOrder},
		"not known":                     {notes(20, 1100, 20, 30, 1050, 51), api.OK},
		"just known":                    {notes(20, 1100, 20, 30, 1050, 50), api.ErrOrder},
		"one that does not count":       {notes(20, 999, 20, 20, 1100, 21), api.OK},
		"one that counts":               {notes(20, 1100, 20, 20, 999, 21), api.ErrOrder},
		"one that will count":           {notes(20, 1100, 20, 20, 999, 51), api.OK},
		"one that will be put right":    {notes(20, 999, 20, 20, 1100, 51), api.ErrOrder},
		"less than one that was wrong":  {notes(20, 5000, 20, 30, 1100, 30, 20, 1050, 40), api.OK},
		"less than one that is right":   {notes(20, 1050, 20, 30, 1100, 30, 20, 5000, 40), api.ErrOrder},
		"after the day that is asked":   {notes(45, 1100, 45, 48, 1099, 48), api.ErrOrder},
		"of a day twice, the same":      {notes(20, 1100, 20, 20, 1100, 20, 30, 1100, 30), api.OK},
		"of a day, less that came late": {notes(20, 1100, 21, 20, 1001, 22), api.OK},
	} {
		t.Run(name, func(t *testing.T) {
			a := plain()
			a.Notes, a.Disputes = c.notes, []api.Dispute{{Day: 50, From: 10, To: 12, Error: 1}}
			_, used := bill.Used(a, 40, 50)
			_, cost := bill.Cost(a, 40, 50)
			_, owed := bill.Owed(a, 50)
			_, settled := bill.Settle(a, 0)
			a.Bills = []int{50}
			_, billed := bill.Bills(a)
			if got := []api.Errno{used, cost, owed, settled, billed}; !slices.Equal(got, slices.Repeat([]api.Errno{c.e}, 5)) {
				t.Error("the errors are", got, "and not", c.e)
			}
		})
	}
}

// backForAWhile is not in order on the days from 30 to 64: the figure of the day 20 is put right on the day 65.
func backForAWhile() api.Account {
	a := example()
	a.Notes = notes(30, 15000, 30, 20, 16000, 25, 20, 9000, 65, 80, 61000, 80)
	a.Disputes = []api.Dispute{tested(29, 15, 20, 100), tested(40, 20, 25, 100), tested(65, 30, 35, 100)}
	return a
}

// ErrOrder: Used and Cost look at the day that is known, and Settle at the Day of the dispute.
func TestOrderOnDays(t *testing.T) {
	a := backForAWhile()
	for _, known := range []int{30, 31, 40, 64} {
		for _, day := range []int{0, 10, 20, 30, 65, 90} {
			checkUsed(t, a, day, known, 0, api.ErrOrder)
			checkCost(t, a, day, known, 0, api.ErrOrder)
		}
	}
	for known, want := range map[int]int{0: 5000, 24: 5000, 25: 7500, 29: 7500, 65: 4000, 90: 4000, api.MaxDay: 4000} {
		checkUsed(t, a, 10, known, want, api.OK)
		checkCost(t, a, 10, known, want*300/1000+20, api.OK)
	}
	checkSettle(t, a, 0, -341*300/1000-1, api.OK)
	checkSettle(t, a, 1, 0, api.ErrOrder)
	// 3000 litres were used, and 3000000 / 1100 is 2727.
	checkSettle(t, a, 2, -82, api.OK)
}

// ErrOrder: Bills looks at the days of all bills, and Owed at its own day and at those of the bills that are not later.
func TestOrderOnBills(t *testing.T) {
	a := backForAWhile()
	for _, list := range [][]int{{29}, {30}, {64}, {65}, {10, 29}, {10, 30}, {29, 64}, {10, 20, 40, 70}, {10, 40, 50, 90}, {10, 20, 65, 90}, {64, 65}} {
		a.Bills = list
		isBack := func(day int) bool { return day >= 30 && day <= 64 }
		want := api.OK
		if slices.ContainsFunc(list, isBack) {
			want = api.ErrOrder
		}
		if l, e := bill.Bills(a); e != want || len(l) != len(list) && e == api.OK || l != nil && e != api.OK {
			t.Error("Bills", a, "is", l, e)
		}
		for _, day := range []int{5, 10, 29, 30, 40, 64, 65, 100} {
			want := api.OK
			if isBack(day) || slices.ContainsFunc(list, func(other int) bool { return isBack(other) && other <= day }) {
				want = api.ErrOrder
			}
			if n, e := bill.Owed(a, day); e != want || n != 0 && e != api.OK {
				t.Error("Owed", a, day, "is", n, e, "and not", want)
			}
		}
	}
}

// limits is an account in which all numbers are as great as they can be.
func limits() api.Account {
	const last = api.MaxDay
	a := api.Account{Figure: 0, Daily: api.MaxDaily, Standing: api.MaxStanding}
	for i := range api.MaxTariffs {
		a.Tariffs = append(a.Tariffs, api.Tariff{From: i * 10, Pence: api.MaxPrice})
	}
	for i := range api.MaxBills {
		a.Bills = append(a.Bills, last-api.MaxBills+1+i)
	}
	for i := range api.MaxNotes {
		a.Notes = append(a.Notes, note(1, api.MaxLitres-i, last-i))
	}
	for i := range api.MaxDisputes {
		a.Disputes = append(a.Disputes, api.Dispute{Day: last, From: last / 4 * i, To: last / 4 * (i + 1), Error: -api.MaxThou, Allowed: api.MaxThou - 1, Fee: api.MaxFee})
	}
	return a
}

// All limits are reached, and no number is too great to be reckoned with.
func TestLimits(t *testing.T) {
	const last, litres = api.MaxDay, api.MaxLitres
	a := limits()
	// All that the meter showed is doubled, since it showed half.
	checkUsed(t, a, last, last, 2*litres*last, api.OK)
	checkUsed(t, a, 1, last, 2*litres, api.OK)
	checkUsed(t, a, last, 0, last*api.MaxDaily, api.OK)
	checkCost(t, a, last, last, 20*litres*last+last*api.MaxStanding, api.OK)
	checkCost(t, a, last, 0, 10*last*api.MaxDaily+last*api.MaxStanding, api.OK)
	checkOwed(t, a, last, 0, api.OK)
	for i := range api.MaxDisputes {
		checkSettle(t, a, i, 10*litres*last/4, api.OK)
	}
	one := with(a, func(a *api.Account) {
		a.Tariffs, a.Disputes = a.Tariffs[:1], a.Disputes[:1]
		a.Disputes[0].To = last
	})
	checkUsed(t, one, last, last, 2*litres*last, api.OK)
	checkCost(t, one, last, last, 20*litres*last+last*api.MaxStanding, api.OK)
	checkSettle(t, one, 0, 10*litres*last, api.OK)
	for i := range a.Disputes {
		a.Disputes[i].Allowed, a.Disputes[i].Error = api.MaxThou, api.MaxThou
	}
	checkUsed(t, a, last, last, litres*last, api.OK)
	checkCost(t, a, last, last, 10*litres*last+last*api.MaxStanding+4*api.MaxFee, api.OK)
	checkSettle(t, a, 3, api.MaxFee, api.OK)
	bills, e := bill.Bills(a)
	if len(bills) != api.MaxBills || e != api.OK {
		t.Error("Bills", a, "is", bills, e)
	}
}

// The least numbers are valid, too, and so are the last days.
func TestLeast(t *testing.T) {
	const last = api.MaxDay
	a := api.Account{Tariffs: tariffs(0, 0), Bills: []int{1}, Notes: notes(1, 0, 1), Disputes: []api.Dispute{{Day: 1, From: 0, To: 1, Error: -api.MaxThou}}}
	checkUsed(t, a, 0, 0, 0, api.OK)
	checkCost(t, a, 1, 1, 0, api.OK)
	checkBills(t, a, []api.Bill{{}}, api.OK)
	checkOwed(t, a, 1, 0, api.OK)
	checkSettle(t, a, 0, 0, api.OK)
	a = api.Account{Start: last - 1, Figure: api.MaxLitres, Tariffs: tariffs(0, 5, last, 5), Bills: []int{last}, Notes: notes(last, api.MaxLitres, last), Disputes: []api.Dispute{{Day: last, From: last - 1, To: last, Error: api.MaxThou, Allowed: api.MaxThou, Fee: 1}}}
	checkUsed(t, a, last, last, 0, api.OK)
	checkCost(t, a, last, last, 1, api.OK)
	checkBills(t, a, []api.Bill{written(0, 1, 0)}, api.OK)
	checkOwed(t, a, last-1, 0, api.OK)
	checkSettle(t, a, 0, 1, api.OK)
	a = api.Account{Start: last, Tariffs: tariffs(0, 0)}
	checkUsed(t, a, last, last, 0, api.OK)
	checkUsed(t, a, last, 0, 0, api.OK)
	checkBills(t, a, nil, api.OK)
	checkOwed(t, a, last, 0, api.OK)
}
