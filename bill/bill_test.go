package bill_test

import (
	"slices"
	"testing"

	"meterworks/api"
	"meterworks/bill"
)

// tariffs returns tariffs: two numbers for each, From and Pence.
func tariffs(l ...int) []api.Tariff {
	var out []api.Tariff
	for i := 0; i < len(l); i += 2 {
		out = append(out, api.Tariff{From: l[i], Pence: l[i+1]})
	}
	return out
}

func note(day, figure, came int) api.Note { return api.Note{Day: day, Figure: figure, Came: came} }

// notes returns notes: three numbers for each, Day, Figure and Came.
func notes(l ...int) []api.Note {
	var out []api.Note
	for i := 0; i < len(l); i += 3 {
		out = append(out, note(l[i], l[i+1], l[i+2]))
	}
	return out
}

// tested is a dispute with the fee 700, of which 40 thousandths are allowed.
func tested(day, from, to, wrong int) api.Dispute {
	return api.Dispute{Day: day, From: from, To: to, Error: wrong, Allowed: 40, Fee: 700}
}

// example is the account of the chapter.
func example() api.Account {
	return api.Account{
		Start: 0, Figure: 1000, Daily: 500, Standing: 2,
		Tariffs:  tariffs(0, 300, 60, 400),
		Bills:    []int{30, 60, 90},
		Notes:    notes(50, 31000, 55, 20, 9000, 65, 80, 61000, 80),
		Disputes: []api.Dispute{tested(85, 20, 50, 100)},
	}
}

// plain is an account that starts on the day 10, with the figure 1000 and 7 litres in a day, at one price, with notes.
func plain(l ...int) api.Account {
	return api.Account{Start: 10, Figure: 1000, Daily: 7, Tariffs: tariffs(0, 1000), Notes: notes(l...)}
}

// disputed is a plain account whose meter shows 100 litres in a day up to the day 110, and that disputes it.
func disputed(l ...api.Dispute) api.Account {
	a := plain(110, 11000, 110)
	a.Disputes = l
	return a
}

// clone returns an account that can be changed.
func clone(a api.Account) api.Account {
	a.Tariffs, a.Bills = slices.Clone(a.Tariffs), slices.Clone(a.Bills)
	a.Notes, a.Disputes = slices.Clone(a.Notes), slices.Clone(a.Disputes)
	return a
}

// with returns a changed account.
func with(a api.Account, change func(*api.Account)) api.Account {
	a = clone(a)
	change(&a)
	return a
}

func written(litres, pence, correction int) api.Bill {
	return api.Bill{Litres: litres, Pence: pence, Correction: correction}
}

func checkUsed(t *testing.T, a api.Account, day, known, want int, e api.Errno) {
	t.Helper()
	if got, f := bill.Used(a, day, known); got != want || f != e {
		t.Error("Used", a, day, known, "is", got, f, "and not", want, e)
	}
}

func checkCost(t *testing.T, a api.Account, day, known, want int, e api.Errno) {
	t.Helper()
	if got, f := bill.Cost(a, day, known); got != want || f != e {
		t.Error("Cost", a, day, known, "is", got, f, "and not", want, e)
	}
}

func checkBills(t *testing.T, a api.Account, want []api.Bill, e api.Errno) {
	t.Helper()
	if got, f := bill.Bills(a); !slices.Equal(got, want) || f != e {
		t.Error("Bills", a, "is", got, f, "and not", want, e)
	}
}

func checkOwed(t *testing.T, a api.Account, day, want int, e api.Errno) {
	t.Helper()
	if got, f := bill.Owed(a, day); got != want || f != e {
		t.Error("Owed", a, day, "is", got, f, "and not", want, e)
	}
}

func checkSettle(t *testing.T, a api.Account, dispute, want int, e api.Errno) {
	t.Helper()
	if got, f := bill.Settle(a, dispute); got != want || f != e {
		t.Error("Settle", a, dispute, "is", got, f, "and not", want, e)
	}
}

// The examples of the chapter.
func TestExamples(t *testing.T) {
	for known, want := range map[int]int{30: 15000, 60: 18000, 70: 15333, 90: 14666} {
		checkUsed(t, example(), 30, known, want, api.OK)
	}
	checkCost(t, example(), 60, 60, 10920, api.OK)
	checkBills(t, example(), []api.Bill{written(15000, 4560, 0), written(21000, 6360, 900), written(32000, 12660, 600)}, api.OK)
	checkOwed(t, example(), 30, 0, api.OK)
	checkOwed(t, example(), 75, 4829, api.OK)
	checkSettle(t, example(), 0, -600, api.OK)
	a := example()
	a.Disputes[0].Allowed = 100
	checkSettle(t, a, 0, 700, api.OK)
}

// P13.1: by the points, between them and after them.
func TestUsed(t *testing.T) {
	for name, c := range map[string]struct {
		a    api.Account
		used map[int]int
	}{
		"only the Start":    {plain(), map[int]int{10: 0, 11: 7, 20: 70, api.MaxDay: 7 * (api.MaxDay - 10)}},
		"only the Start, 0": {api.Account{Tariffs: tariffs(0, 0)}, map[int]int{0: 0, 1: 0, api.MaxDay: 0}},
		"the last Start":    {api.Account{Start: api.MaxDay, Daily: 9, Tariffs: tariffs(0, 0)}, map[int]int{api.MaxDay: 0}},
		"one note":          {plain(20, 1035, 20), map[int]int{10: 0, 11: 3, 12: 7, 19: 31, 20: 35, 21: 38, 22: 42, 30: 70}},
		"the next day":      {plain(11, 1100, 11), map[int]int{10: 0, 11: 100, 12: 200, 110: 10000}},
		"nothing used":      {plain(20, 1000, 20), map[int]int{10: 0, 15: 0, 20: 0, 99: 0}},
		"two notes":         {plain(20, 1035, 20, 30, 1036, 30), map[int]int{10: 0, 19: 31, 20: 35, 21: 35, 29: 35, 30: 36, 31: 36, 39: 36, 40: 37, 50: 38}},
		"in no order":       {plain(30, 1036, 30, 20, 1035, 20), map[int]int{10: 0, 19: 31, 20: 35, 21: 35, 29: 35, 30: 36, 39: 36, 40: 37}},
		"three notes":       {plain(40, 1136, 40, 20, 1035, 20, 30, 1036, 30), map[int]int{20: 35, 29: 35, 30: 36, 31: 46, 39: 126, 40: 136, 41: 146}},
		"no more at last":   {plain(20, 1035, 20, 30, 1035, 30), map[int]int{19: 31, 20: 35, 25: 35, 30: 35, 31: 35, api.MaxDay: 35}},
		"one twice":         {plain(20, 1035, 20, 20, 1035, 20), map[int]int{11: 3, 20: 35, 21: 38, 30: 70}},
	} {
		t.Run(name, func(t *testing.T) {
			for day, want := range c.used {
				checkUsed(t, c.a, day, api.MaxDay, want, api.OK)
			}
		})
	}
}

// P13.1: notes are known when they have come, and of those of one day the one that came last counts.
func TestKnownNotes(t *testing.T) {
	a := plain(20, 1100, 25, 40, 1500, 40, 30, 1200, 50, 20, 1150, 50, 20, 1140, 45)
	for known, want := range map[int]map[int]int{
		0:          {10: 0, 20: 70, 40: 210},
		10:         {10: 0, 20: 70, 40: 210},
		24:         {10: 0, 20: 70, 40: 210},
		25:         {10: 0, 15: 50, 20: 100, 30: 200, 40: 300, 50: 400},
		39:         {10: 0, 15: 50, 20: 100, 30: 200, 40: 300, 50: 400},
		40:         {10: 0, 15: 50, 20: 100, 30: 300, 40: 500, 50: 700},
		44:         {15: 50, 20: 100, 30: 300, 40: 500, 50: 700},
		45:         {15: 70, 20: 140, 30: 320, 40: 500, 50: 680},
		49:         {15: 70, 20: 140, 30: 320, 40: 500, 50: 680},
		50:         {15: 75, 20: 150, 25: 175, 30: 200, 35: 350, 40: 500, 50: 800},
		api.MaxDay: {15: 75, 20: 150, 25: 175, 30: 200, 35: 350, 40: 500, 50: 800},
	} {
		for day, used := range want {
			checkUsed(t, a, day, known, used, api.OK)
		}
	}
}

// P13.1: what tests take off.
func TestUsedOfDisputes(t *testing.T) {
	off := func(change func(*api.Dispute)) api.Account {
		d := tested(110, 30, 60, 100)
		change(&d)
		return disputed(d)
	}
	for name, c := range map[string]struct {
		a    api.Account
		used map[int]int
	}{
		// From 30 to 60 the meter showed 3000, and 3000000 / 1100 is 2727.
		"too much":            {off(func(*api.Dispute) {}), map[int]int{10: 0, 29: 1900, 30: 2000, 31: 2090, 45: 3363, 59: 4636, 60: 4727, 61: 4827, 110: 9727, 120: 10727}},
		"too little":          {off(func(d *api.Dispute) { d.Error = -100 }), map[int]int{30: 2000, 31: 2111, 59: 5222, 60: 5333, 61: 5433}},
		"the greatest error":  {off(func(d *api.Dispute) { d.Error = 500 }), map[int]int{30: 2000, 31: 2066, 60: 4000}},
		"the least error":     {off(func(d *api.Dispute) { d.Error = -500 }), map[int]int{30: 2000, 31: 2200, 60: 8000}},
		"just allowed":        {off(func(d *api.Dispute) { d.Error = 40 }), map[int]int{30: 2000, 31: 2100, 60: 5000}},
		"just not allowed":    {off(func(d *api.Dispute) { d.Error = 41 }), map[int]int{30: 2000, 31: 2096, 60: 4881}},
		"as little allowed":   {off(func(d *api.Dispute) { d.Error = -40 }), map[int]int{30: 2000, 31: 2100, 60: 5000}},
		"as little is not":    {off(func(d *api.Dispute) { d.Error = -41 }), map[int]int{30: 2000, 31: 2104, 60: 5128}},
		"no error allowed":    {off(func(d *api.Dispute) { d.Error, d.Allowed = 1, 0 }), map[int]int{30: 2000, 31: 2099, 60: 4997}},
		"no error":            {off(func(d *api.Dispute) { d.Error, d.Allowed = 0, 0 }), map[int]int{30: 2000, 31: 2100, 60: 5000}},
		"all errors allowed":  {off(func(d *api.Dispute) { d.Error, d.Allowed = -500, 500 }), map[int]int{30: 2000, 31: 2100, 60: 5000}},
		"from the Start":      {off(func(d *api.Dispute) { d.From = 10 }), map[int]int{10: 0, 11: 90, 60: 4545, 70: 5545}},
		"one day":             {off(func(d *api.Dispute) { d.To = 31 }), map[int]int{30: 2000, 31: 2090, 32: 2190}},
		"until it was tested": {off(func(d *api.Dispute) { d.To = 110 }), map[int]int{30: 2000, 31: 2090, 110: 9272, 111: 9372}},
		"after the last note": {off(func(d *api.Dispute) { d.Day, d.From, d.To = 150, 120, 150 }), map[int]int{120: 11000, 121: 11090, 150: 13727, 151: 13827}},
		"about the last note": {off(func(d *api.Dispute) { d.Day, d.From, d.To = 150, 100, 120 }), map[int]int{100: 9000, 110: 9909, 120: 10818, 121: 10918}},
		"two":                 {disputed(tested(110, 30, 40, 100), tested(110, 50, 60, -100)), map[int]int{30: 2000, 31: 2090, 40: 2909, 50: 3909, 51: 4020, 60: 5020, 70: 6020}},
		"two without a break": {disputed(tested(110, 30, 45, 100), tested(110, 45, 60, 100)), map[int]int{45: 3363, 60: 4726, 61: 4826}},
		"one of two":          {disputed(tested(110, 30, 40, 40), tested(110, 50, 60, -100)), map[int]int{40: 3000, 50: 4000, 60: 5111}},
		"the Fee counts not":  {off(func(d *api.Dispute) { d.Error, d.Fee = 0, api.MaxFee }), map[int]int{30: 2000, 60: 5000}},
	} {
		t.Run(name, func(t *testing.T) {
			for day, want := range c.used {
				checkUsed(t, c.a, day, api.MaxDay, want, api.OK)
			}
		})
	}
}

// P13.1: tests are known from their Day on, and go by what the meter showed as known then.
func TestKnownDisputes(t *testing.T) {
	a := disputed(tested(70, 30, 60, 100), tested(115, 60, 100, -500))
	// From the day 40 to 110 the meter shows 9700, which is 138 or 139 in a day.
	a.Notes = append(a.Notes, note(40, 1300, 90))
	for known, want := range map[int]map[int]int{
		69:  {30: 140, 60: 350, 100: 630},
		70:  {30: 140, 60: 330, 100: 610},
		89:  {30: 140, 60: 330, 100: 610},
		90:  {30: 200, 60: 472, 100: 872},
		110: {30: 200, 35: 245, 60: 2810, 100: 8353, 110: 9739},
		114: {30: 200, 35: 245, 60: 2810, 100: 8353, 110: 9739},
		115: {30: 200, 35: 245, 60: 2810, 61: 3088, 100: 13896, 110: 15282},
	} {
		for day, used := range want {
			checkUsed(t, a, day, known, used, api.OK)
		}
	}
}

// P13.2: tariffs, standing and fees.
func TestCost(t *testing.T) {
	// From the day 10 on the meter shows 100 litres in a day.
	priced := func(l ...int) api.Account {
		a := plain(110, 11000, 110)
		a.Tariffs = tariffs(l...)
		return a
	}
	for name, c := range map[string]struct {
		a    api.Account
		cost map[int]int
	}{
		"one":                   {priced(0, 1000), map[int]int{10: 0, 11: 100, 110: 10000, 210: 20000}},
		"rounded down":          {priced(0, 9), map[int]int{10: 0, 11: 0, 12: 1, 13: 2, 110: 90, 111: 90, 112: 91}},
		"nothing":               {priced(0, 0), map[int]int{10: 0, 11: 0, 110: 0}},
		"the greatest price":    {priced(0, api.MaxPrice), map[int]int{10: 0, 11: 1000, 110: 100000}},
		"a change":              {priced(0, 1000, 50, 2000), map[int]int{49: 3900, 50: 4000, 51: 4200, 110: 16000}},
		"changes before it":     {priced(0, 1000, 5, 2000, 9, 3000), map[int]int{10: 0, 11: 300, 110: 30000}},
		"one on the Start":      {priced(0, 1000, 10, 2000), map[int]int{10: 0, 11: 200, 110: 20000}},
		"one after the Start":   {priced(0, 1000, 11, 2000), map[int]int{10: 0, 11: 100, 12: 300}},
		"before and after it":   {priced(0, 1, 9, 1000, 11, 2000, 12, 5000), map[int]int{10: 0, 11: 100, 12: 300, 13: 800}},
		"all six":               {priced(0, 1000, 20, 2000, 30, 3000, 40, 4000, 50, 5000, 60, 6000), map[int]int{20: 1000, 30: 3000, 40: 6000, 50: 10000, 60: 15000, 70: 21000}},
		"free for some days":    {priced(0, 1000, 20, 0, 30, 1000), map[int]int{20: 1000, 25: 1000, 30: 1000, 31: 1100}},
		"each is rounded":       {priced(0, 9, 11, 8, 12, 9), map[int]int{11: 0, 12: 0, 13: 0, 14: 1}},
		"the last day":          {priced(0, 1000, api.MaxDay, 2000), map[int]int{110: 10000, api.MaxDay: 100 * (api.MaxDay - 10)}},
		"the day before it":     {priced(0, 0, api.MaxDay-1, 2000), map[int]int{api.MaxDay - 1: 0, api.MaxDay: 200}},
		"Standing":              {with(priced(0, 1000), func(a *api.Account) { a.Standing = 3 }), map[int]int{10: 0, 11: 103, 110: 10300}},
		"nothing but Standing":  {api.Account{Standing: 3, Tariffs: tariffs(0, 1000)}, map[int]int{0: 0, 1: 3, api.MaxDay: 3 * api.MaxDay}},
		"by Daily":              {with(plain(), func(a *api.Account) { a.Daily, a.Tariffs = 50, tariffs(0, 10, 15, 20) }), map[int]int{10: 0, 11: 0, 12: 1, 15: 2, 16: 3, 17: 4}},
		"Tariffs and a dispute": {with(disputed(tested(110, 30, 60, 100)), func(a *api.Account) { a.Tariffs = tariffs(0, 1000, 45, 2000) }), map[int]int{30: 2000, 44: 3272, 45: 3363, 46: 3363 + 182, 60: 3363 + 2*1364, 61: 3363 + 2*1464}},
	} {
		t.Run(name, func(t *testing.T) {
			for day, want := range c.cost {
				checkCost(t, c.a, day, api.MaxDay, want, api.OK)
			}
		})
	}
}

// P13.2: the Fee of each dispute that is known and not upheld, also of one that is about later days.
func TestFees(t *testing.T) {
	fees := func(l ...int) api.Account {
		a := disputed(tested(70, 30, 40, l[0]), tested(75, 50, 60, l[1]))
		a.Disputes[1].Fee = 5
		return a
	}
	for _, day := range []int{10, 20, 50} {
		litres := 100 * (day - 10)
		for known, want := range map[int]int{110: 705, 120: 705, api.MaxDay: 705} {
			checkCost(t, fees(40, -40), day, known, litres+want, api.OK)
			checkUsed(t, fees(40, -40), day, known, litres, api.OK)
		}
		for known, want := range map[int]int{0: 0, 69: 0, 70: 700, 74: 700, 75: 705, 109: 705} {
			checkCost(t, fees(0, 0), day, known, 7*(day-10)+want, api.OK)
		}
	}
	checkCost(t, fees(40, 41), 10, 110, 700, api.OK)
	checkCost(t, fees(41, 40), 10, 110, 5, api.OK)
	checkCost(t, fees(41, -41), 10, 110, 0, api.OK)
	checkCost(t, fees(100, 0), 60, 110, 4000+909+5, api.OK)
}

// P13.1 and P13.2 go by the account as known, not by what comes later.
func TestOneDayKnownAsOthers(t *testing.T) {
	a := example()
	for known, want := range map[int][2]int{0: {15000, 4560}, 54: {15000, 4560}, 55: {18000, 5460}, 64: {18000, 5460}, 65: {15333, 4659}, 79: {15333, 4659}, 84: {15333, 4659}, 85: {14666, 4459}, api.MaxDay: {14666, 4459}} {
		checkUsed(t, a, 30, known, want[0], api.OK)
		checkCost(t, a, 30, known, want[1], api.OK)
	}
}

// P13.3: bills.
func TestBills(t *testing.T) {
	billed := func(a api.Account, days ...int) api.Account {
		a.Bills = days
		return a
	}
	for name, c := range map[string]struct {
		a    api.Account
		want []api.Bill
	}{
		"none":                {billed(plain()), nil},
		"one":                 {billed(plain(), 20), []api.Bill{written(70, 70, 0)}},
		"on the first day":    {billed(plain(), 11), []api.Bill{written(7, 7, 0)}},
		"on the last day":     {billed(plain(), api.MaxDay), []api.Bill{written(7*(api.MaxDay-10), 7*(api.MaxDay-10), 0)}},
		"one after the other": {billed(plain(), 20, 21, 41), []api.Bill{written(70, 70, 0), written(7, 7, 0), written(140, 140, 0)}},
		"as it was taken":     {billed(plain(30, 1140, 30), 20, 30, 40), []api.Bill{written(70, 70, 0), written(70, 70, 0), written(70, 70, 0)}},
		"more was used":       {billed(plain(30, 1300, 35), 20, 30, 40), []api.Bill{written(70, 70, 0), written(70, 70, 0), written(310, 310, 160)}},
		"less was used":       {billed(plain(30, 1020, 35), 20, 30, 40), []api.Bill{written(70, 70, 0), written(70, 70, 0), written(-110, -110, -120)}},
		"a note of the day":   {billed(plain(30, 1300, 30), 20, 30, 40), []api.Bill{written(70, 70, 0), written(230, 230, 80), written(150, 150, 0)}},
		"a note too late":     {billed(plain(30, 1300, 41), 20, 30, 40), []api.Bill{written(70, 70, 0), written(70, 70, 0), written(70, 70, 0)}},
		"of the first bill":   {billed(plain(15, 1100, 15), 20), []api.Bill{written(200, 200, 0)}},
		"each corrects":       {billed(plain(15, 1050, 25, 20, 1200, 35), 20, 30, 40), []api.Bill{written(70, 70, 0), written(130, 130, 30), written(600, 600, 300)}},
		"one is replaced":     {billed(plain(20, 1100, 20, 20, 1080, 30), 20, 30, 40), []api.Bill{written(100, 100, 0), written(60, 60, -20), written(80, 80, 0)}},
	} {
		t.Run(name, func(t *testing.T) { checkBills(t, c.a, c.want, api.OK) })
	}
}

// P13.3: what disputes do to bills.
func TestBillsOfDisputes(t *testing.T) {
	billed := func(a api.Account) api.Account {
		a.Notes = notes(20, 2000, 20)
		a.Bills, a.Standing = []int{40, 70, 100}, 1
		return a
	}
	for name, c := range map[string]struct {
		a    api.Account
		want []api.Bill
	}{
		"none":                {billed(disputed()), []api.Bill{written(3000, 3030, 0), written(3000, 3030, 0), written(3000, 3030, 0)}},
		"the Fee":             {billed(disputed(tested(70, 30, 60, 40))), []api.Bill{written(3000, 3030, 0), written(3000, 3730, 700), written(3000, 3030, 0)}},
		"the Fee at first":    {billed(disputed(tested(40, 30, 40, 40))), []api.Bill{written(3000, 3730, 0), written(3000, 3030, 0), written(3000, 3030, 0)}},
		"too much":            {billed(disputed(tested(71, 30, 60, 100))), []api.Bill{written(3000, 3030, 0), written(3000, 3030, 0), written(2727, 2757, -273)}},
		"too much, at once":   {billed(disputed(tested(70, 30, 60, 100))), []api.Bill{written(3000, 3030, 0), written(2727, 2757, -91), written(3000, 3030, 0)}},
		"too little":          {billed(disputed(tested(71, 30, 60, -100))), []api.Bill{written(3000, 3030, 0), written(3000, 3030, 0), written(3333, 3363, 333)}},
		"too late":            {billed(disputed(tested(101, 30, 60, -100))), []api.Bill{written(3000, 3030, 0), written(3000, 3030, 0), written(3000, 3030, 0)}},
		"one of each":         {billed(disputed(tested(71, 30, 60, -100), tested(80, 60, 61, 0))), []api.Bill{written(3000, 3030, 0), written(3000, 3030, 0), written(3333, 4063, 1033)}},
		"between two bills":   {billed(disputed(tested(71, 50, 60, 100))), []api.Bill{written(3000, 3030, 0), written(3000, 3030, 0), written(2909, 2939, -91)}},
		"in the second one":   {billed(disputed(tested(60, 50, 60, 100))), []api.Bill{written(3000, 3030, 0), written(2909, 2939, 0), written(3000, 3030, 0)}},
		"in the last one":     {billed(disputed(tested(100, 70, 100, 500))), []api.Bill{written(3000, 3030, 0), written(3000, 3030, 0), written(2000, 2030, 0)}},
		"both in two of them": {billed(disputed(tested(70, 30, 40, 500), tested(100, 40, 50, 500))), []api.Bill{written(3000, 3030, 0), written(2666, 2696, -334), written(2666, 2696, -334)}},
	} {
		t.Run(name, func(t *testing.T) { checkBills(t, c.a, c.want, api.OK) })
	}
}

// P13.4: what is owed.
func TestOwed(t *testing.T) {
	a := plain(30, 1300, 35)
	a.Bills = []int{20, 30, 40}
	for day, want := range map[int]int{
		10: 0, 11: 7, 19: 63, 20: 0, 21: 7, 29: 63, 30: 0,
		// Since the day 35 it is known that 15 litres go in a day, and 140 have been billed.
		31: 7, 34: 28, 35: 375 - 140, 39: 435 - 140, 40: 0, 41: 15, 140: 1500,
	} {
		checkOwed(t, a, day, want, api.OK)
	}
	a.Notes = notes(30, 1000, 35)
	for day, want := range map[int]int{34: 28, 35: -140, 39: -140, 40: 0, 41: 0, api.MaxDay: 0} {
		checkOwed(t, a, day, want, api.OK)
	}
	a.Bills = nil
	for day, want := range map[int]int{10: 0, 20: 70, 34: 168, 35: 0} {
		checkOwed(t, a, day, want, api.OK)
	}
	a = disputed(tested(70, 30, 60, 40), tested(80, 60, 70, 500))
	a.Notes, a.Standing, a.Bills = notes(20, 2000, 20), 1, []int{65, 75}
	for day, want := range map[int]int{65: 0, 66: 101, 69: 404, 70: 505 + 700, 75: 0, 79: 404, 80: 505 - 334, 81: 606 - 334} {
		checkOwed(t, a, day, want, api.OK)
	}
}

// P13.5: what a house pays for a dispute, or is paid.
func TestSettle(t *testing.T) {
	for wrong, want := range map[int]int{100: -273, 41: -119, 40: 700, 1: 700, 0: 700, -1: 700, -40: 700, -41: 128, -100: 333, 500: -1000, -500: 3000} {
		checkSettle(t, disputed(tested(110, 30, 60, wrong)), 0, want, api.OK)
	}
	free := disputed(tested(110, 30, 60, 40))
	free.Disputes[0].Fee = 0
	checkSettle(t, free, 0, 0, api.OK)
	// Only what is known on its Day counts, which is 7 litres in a day.
	early := disputed(tested(109, 30, 60, 500))
	checkSettle(t, early, 0, -70, api.OK)
	early.Notes[0].Came = 111
	checkSettle(t, early, 0, -70, api.OK)
	// Each one is settled by itself, the others as known.
	two := disputed(tested(110, 30, 60, 100), tested(110, 60, 90, 40), tested(120, 90, 100, -500))
	for i, want := range []int{-273, 700, 1000} {
		checkSettle(t, two, i, want, api.OK)
	}
	priced := two
	priced.Tariffs = tariffs(0, 1000, 45, 3000, 95, 10)
	for i, want := range []int{-137 - 3*136, 700, 3*500 + 5} {
		checkSettle(t, priced, i, want, api.OK)
	}
}
