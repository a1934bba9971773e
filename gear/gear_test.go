package gear_test

import (
	"math"
	"slices"
	"testing"

	"meterworks/api"
	"meterworks/gear"
)

// shelf is the stock of the document's examples.
func shelf() []api.Wheel {
	return []api.Wheel{{Teeth: 10, Count: 2}, {Teeth: 12, Count: 1}, {Teeth: 20, Count: 1}, {Teeth: 30, Count: 1}, {Teeth: 36, Count: 1}}
}

// gearing is a gearing of the document's examples.
func gearing(turns int, same bool) api.Gearing {
	return api.Gearing{Turns: turns, Rounds: 1, Same: same, Pairs: 2, Room: 60}
}

func checkBuild(t *testing.T, name string, stock []api.Wheel, g api.Gearing, tr api.Train, wheels int, e api.Errno) {
	t.Helper()
	if gotWheels, gotE := gear.Build(stock, g, tr); gotWheels != wheels || gotE != e {
		t.Errorf("%s: Build returns %d, %d, not %d, %d", name, gotWheels, gotE, wheels, e)
	}
}

func checkChoose(t *testing.T, name string, stock []api.Wheel, g api.Gearing, tr api.Train, wheels int, e api.Errno) {
	t.Helper()
	if got, gotWheels, gotE := gear.Choose(stock, g); !sameTrain(got, tr) || gotWheels != wheels || gotE != e {
		t.Errorf("%s: Choose returns %v, %d, %d, not %v, %d, %d", name, got, gotWheels, gotE, tr, wheels, e)
	}
}

func checkNear(t *testing.T, name string, stock []api.Wheel, g api.Gearing, tr api.Train, excess int, e api.Errno) {
	t.Helper()
	if got, gotExcess, gotE := gear.Near(stock, g); !sameTrain(got, tr) || gotExcess != excess || gotE != e {
		t.Errorf("%s: Near returns %v, %d, %d, not %v, %d, %d", name, got, gotExcess, gotE, tr, excess, e)
	}
}

func checkRounds(t *testing.T, name string, tr api.Train, turns, rounds int, e api.Errno) {
	t.Helper()
	if got, gotE := gear.Rounds(tr, turns); got != rounds || gotE != e {
		t.Errorf("%s: Rounds returns %d, %d, not %d, %d", name, got, gotE, rounds, e)
	}
}

func TestExamples(t *testing.T) {
	checkChoose(t, "6 turns, Same", shelf(), gearing(6, true), train(0, 10, 20, 10, 30), 4, api.OK)
	checkChoose(t, "6 turns, not Same", shelf(), gearing(6, false), train(12, 10, 20, 10, 30), 5, api.OK)
	checkChoose(t, "3 turns, not Same", shelf(), gearing(3, false), train(0, 10, 30), 2, api.OK)
	checkChoose(t, "3 turns, Same", shelf(), gearing(3, true), train(10, 10, 30), 3, api.OK)
	checkChoose(t, "7 turns, Same", shelf(), gearing(7, true), api.Train{}, 0, api.ErrNone)
	checkNear(t, "7 turns, Same", shelf(), gearing(7, true), train(0, 10, 20, 10, 36), -27778, api.OK)
	checkBuild(t, "6 turns, Same", shelf(), gearing(6, true), train(0, 10, 36, 12, 20), 4, api.OK)
	checkBuild(t, "7 turns, Same", shelf(), gearing(7, true), train(0, 10, 36, 12, 20), 0, api.ErrRefuse)
	checkRounds(t, "6 turns", train(0, 10, 20, 10, 30), 6, 1, api.OK)
	checkRounds(t, "35 turns", train(0, 10, 20, 10, 30), 35, 5, api.OK)
}

// P1.1, each error in its order: in each case the errors that are named later hold as well, as far as they can.
func TestBuildErrorsInOrder(t *testing.T) {
	g := gearing(7, true)
	for _, x := range []struct {
		name string
		t    api.Train
		e    api.Errno
	}{
		{"too many pairs", train(-1, 5, 101, 36, 36, 7, 7), api.ErrFull},
		{"a wheel too small", train(101, 5, 101, 36, 36), api.ErrRange},
		{"the driving wheel too small", train(101, 5, 20, 36, 36), api.ErrRange},
		{"the driving wheel too great", train(101, 101, 20, 36, 36), api.ErrRange},
		{"the driven wheel too small", train(101, 20, 5, 36, 36), api.ErrRange},
		{"the driven wheel too great", train(101, 20, 101, 36, 36), api.ErrRange},
		{"no room before a wheel too small", train(101, 36, 25, 5, 20), api.ErrFull},
		{"a wheel too small before no room", train(101, 5, 20, 36, 25), api.ErrRange},
		{"no room in the second pair", train(101, 7, 7, 36, 25), api.ErrFull},
		{"an idler without a pair", train(12), api.ErrState},
		{"an idler without a pair, too small", train(-1), api.ErrState},
		{"an idler without a pair, too great", train(101), api.ErrState},
		{"an idler too small", train(5, 7, 7, 10, 30), api.ErrRange},
		{"an idler below 0", train(-1, 7, 7, 10, 30), api.ErrRange},
		{"an idler too great", train(101, 7, 7, 10, 30), api.ErrRange},
		{"a wheel not in stock, the wrong way, not exact", train(12, 10, 7, 10, 30), api.ErrShort},
		{"too many of a wheel, the wrong way, not exact", train(12, 10, 10, 10, 30), api.ErrShort},
		{"the idler not in stock, the wrong way, not exact", train(7, 10, 20, 10, 30), api.ErrShort},
		{"the idler in a pair as well, the wrong way, not exact", train(20, 10, 20, 10, 30), api.ErrShort},
		{"the wrong way, not exact", train(12, 10, 20, 10, 30), api.ErrOrder},
		{"the wrong way, one pair", train(0, 10, 30), api.ErrOrder},
		{"not exact", train(0, 10, 20, 10, 30), api.ErrRefuse},
		{"not exact, no pairs", train(0), api.ErrRefuse},
	} {
		checkBuild(t, x.name, shelf(), g, x.t, 0, x.e)
	}
	g.Same = false
	checkBuild(t, "no pairs turn the same way", shelf(), g, train(0), 0, api.ErrOrder)
	checkBuild(t, "two pairs turn the same way", shelf(), g, train(0, 10, 20, 10, 30), 0, api.ErrOrder)
	checkBuild(t, "a pair and an idler turn the same way", shelf(), g, train(12, 10, 30), 0, api.ErrOrder)
}

// P1.1: what just can be built.
func TestBuildAccepts(t *testing.T) {
	for _, x := range []struct {
		name   string
		g      api.Gearing
		t      api.Train
		wheels int
	}{
		{"no pairs", api.Gearing{Turns: 1, Rounds: 1, Same: true}, train(0), 0},
		{"no pairs, 1000 turns", api.Gearing{Turns: 1000, Rounds: 1000, Same: true}, train(0), 0},
		{"one pair", api.Gearing{Turns: 3, Rounds: 1, Pairs: 1, Room: 40}, train(0, 10, 30), 2},
		{"one pair that makes it faster", api.Gearing{Turns: 1, Rounds: 3, Pairs: 3, Room: 200}, train(0, 30, 10), 2},
		{"a pair of the same teeth", api.Gearing{Turns: 5, Rounds: 5, Pairs: 1, Room: 20}, train(0, 10, 10), 2},
		{"an idler like a wheel of the pair", api.Gearing{Turns: 3, Rounds: 1, Same: true, Pairs: 1, Room: 40}, train(10, 10, 30), 3},
		{"an idler that takes no room", api.Gearing{Turns: 3, Rounds: 1, Same: true, Pairs: 1, Room: 40}, train(36, 10, 30), 3},
		{"two pairs that fall", api.Gearing{Turns: 6, Rounds: 1, Same: true, Pairs: 2, Room: 46}, train(0, 12, 20, 10, 36), 4},
		{"two pairs and an idler", api.Gearing{Turns: 6, Rounds: 1, Pairs: 2, Room: 46}, train(30, 10, 36, 12, 20), 5},
		{"three pairs", api.Gearing{Turns: 18, Rounds: 5, Pairs: 3, Room: 60}, train(0, 10, 30, 10, 20, 20, 12), 6},
	} {
		stock := shelf()
		if x.name == "three pairs" {
			stock[2].Count = 2
		}
		checkBuild(t, x.name, stock, x.g, x.t, x.wheels, api.OK)
	}
	ends := []api.Wheel{{Teeth: api.MinTeeth, Count: 4}, {Teeth: api.MaxTeeth, Count: 4}}
	g := api.Gearing{Turns: 1, Rounds: 1, Same: true, Pairs: 3, Room: 200}
	checkBuild(t, "the most wheels of the least teeth", ends, g, train(100, 6, 100, 100, 6, 6, 6), 7, api.OK)
	checkBuild(t, "one wheel too many of the least teeth", ends, g, train(6, 6, 100, 100, 6, 6, 6), 0, api.ErrShort)
	checkBuild(t, "the most room", ends, g, train(6, 100, 100), 3, api.OK)
}

// badTasks returns tasks that are not valid, each for one reason.
func badTasks() map[string]task {
	of := func(f func(k *task)) task {
		k := task{shelf(), gearing(6, true)}
		f(&k)
		return k
	}
	return map[string]task{
		"nine kinds":             of(func(k *task) { k.stock = append(k.stock, make([]api.Wheel, 4)...); renumber(k.stock) }),
		"teeth too few":          of(func(k *task) { k.stock[0].Teeth = 5 }),
		"teeth too many":         of(func(k *task) { k.stock[4].Teeth = 101 }),
		"teeth twice":            of(func(k *task) { k.stock[1].Teeth = 10 }),
		"teeth that fall":        of(func(k *task) { k.stock[1].Teeth = 9 }),
		"teeth that fall later":  of(func(k *task) { k.stock[4].Teeth = 29 }),
		"a count below 0":        of(func(k *task) { k.stock[0].Count = -1 }),
		"a count too great":      of(func(k *task) { k.stock[4].Count = 5 }),
		"no turns":               of(func(k *task) { k.g.Turns = 0 }),
		"turns too many":         of(func(k *task) { k.g.Turns = 1001 }),
		"no rounds":              of(func(k *task) { k.g.Rounds = 0 }),
		"rounds too many":        of(func(k *task) { k.g.Rounds = 1001 }),
		"pairs below 0":          of(func(k *task) { k.g.Pairs = -1 }),
		"pairs too many":         of(func(k *task) { k.g.Pairs = 4 }),
		"room below 0":           of(func(k *task) { k.g.Room = -1 }),
		"room too great":         of(func(k *task) { k.g.Room = 201 }),
		"the least turns of all": of(func(k *task) { k.g.Turns = math.MinInt }),
		"the most room of all":   of(func(k *task) { k.g.Room = math.MaxInt }),
	}
}

// renumber gives a stock rising teeth from MinTeeth on.
func renumber(stock []api.Wheel) {
	for i := range stock {
		stock[i].Teeth = api.MinTeeth + i
	}
}

// ErrArg comes first: the train has all other errors.
func TestNotValid(t *testing.T) {
	for name, k := range badTasks() {
		for _, tr := range []api.Train{train(0, 10, 20, 10, 30), train(0), train(-1, 5, 101, 5, 5, 5, 5, 5, 5), train(5), train(12, 36, 36)} {
			checkBuild(t, name, k.stock, k.g, tr, 0, api.ErrArg)
		}
		checkChoose(t, name, k.stock, k.g, api.Train{}, 0, api.ErrArg)
		checkNear(t, name, k.stock, k.g, api.Train{}, 0, api.ErrArg)
	}
}

// All bounds are valid on themselves.
func TestJustValid(t *testing.T) {
	eight := make([]api.Wheel, api.MaxKinds)
	renumber(eight)
	eight[0].Count, eight[7].Count, eight[7].Teeth = api.MaxCount, api.MaxCount, api.MaxTeeth
	g := api.Gearing{Turns: 100, Rounds: 6, Pairs: 3, Room: 200}
	checkChoose(t, "eight kinds", eight, g, train(0, 6, 100), 2, api.OK)
	checkNear(t, "eight kinds", eight, g, train(0, 6, 100), 0, api.OK)
	g.Same = true
	checkChoose(t, "eight kinds, Same", eight, g, train(6, 6, 100), 3, api.OK)
	checkChoose(t, "no room", eight, api.Gearing{Turns: 1, Rounds: 1, Same: true, Pairs: 3}, train(0), 0, api.OK)
	checkChoose(t, "no room, a pair needed", eight, api.Gearing{Turns: 1, Rounds: 1, Pairs: 3}, api.Train{}, 0, api.ErrNone)
	checkNear(t, "1000 turns", nil, api.Gearing{Turns: 1000, Rounds: 1, Same: true}, train(0), 999_000_000, api.OK)
	checkNear(t, "1000 rounds", nil, api.Gearing{Turns: 1, Rounds: 1000, Same: true}, train(0), -999_000, api.OK)
	g = api.Gearing{Turns: 1000, Rounds: 1, Pairs: 3, Room: 200}
	checkNear(t, "the least excess is far", []api.Wheel{{Teeth: 99, Count: 1}, {Teeth: 100, Count: 1}}, g, train(0, 99, 100), 989_000_000, api.OK)
}

// P1.2: which train is the first one.
func TestChoose(t *testing.T) {
	same, other := gearing(1, true), gearing(1, false)
	checkChoose(t, "no pairs", shelf(), same, train(0), 0, api.OK)
	checkChoose(t, "no pairs, no stock", nil, same, train(0), 0, api.OK)
	checkChoose(t, "wheels of the same teeth", shelf(), other, train(0, 10, 10), 2, api.OK)
	checkChoose(t, "no stock", nil, other, api.Train{}, 0, api.ErrNone)
	checkChoose(t, "kinds of which none is there", []api.Wheel{{Teeth: 10}, {Teeth: 20}}, other, api.Train{}, 0, api.ErrNone)
	one := []api.Wheel{{Teeth: 10, Count: 1}}
	checkChoose(t, "one wheel is no pair", one, other, api.Train{}, 0, api.ErrNone)
	two := []api.Wheel{{Teeth: 10, Count: 1}, {Teeth: 30, Count: 1}}
	checkChoose(t, "no idler is left", two, gearing(3, true), api.Train{}, 0, api.ErrNone)
	two[1].Count = 2
	checkChoose(t, "an idler like the driven wheel", two, gearing(3, true), train(30, 10, 30), 3, api.OK)
	g := gearing(6, true)
	g.Pairs = 1
	checkChoose(t, "too few pairs", shelf(), g, api.Train{}, 0, api.ErrNone)
	g = gearing(6, true)
	g.Room = 45
	checkChoose(t, "room for one of two ways", shelf(), g, train(0, 10, 20, 10, 30), 4, api.OK)
	g.Room = 39
	checkChoose(t, "too little room", shelf(), g, api.Train{}, 0, api.ErrNone)
	lesser := []api.Wheel{{Teeth: 10, Count: 1}, {Teeth: 12, Count: 1}, {Teeth: 20, Count: 1}, {Teeth: 24, Count: 1}}
	checkChoose(t, "the lesser Drives", lesser, gearing(2, false), train(0, 10, 20), 2, api.OK)
	squares := []api.Wheel{{Teeth: 10, Count: 2}, {Teeth: 20, Count: 1}, {Teeth: 25, Count: 1}, {Teeth: 40, Count: 1}, {Teeth: 50, Count: 1}}
	checkChoose(t, "the lesser Driven", squares, gearing(10, true), train(0, 10, 20, 10, 50), 4, api.OK)
	three := []api.Wheel{{Teeth: 10, Count: 1}, {Teeth: 12, Count: 1}, {Teeth: 14, Count: 1}, {Teeth: 20, Count: 1}, {Teeth: 24, Count: 1}, {Teeth: 28, Count: 1}}
	g = api.Gearing{Turns: 8, Rounds: 1, Pairs: 3, Room: 42}
	checkChoose(t, "three pairs", three, g, train(0, 10, 20, 12, 24, 14, 28), 6, api.OK)
	g.Same = true
	checkChoose(t, "three pairs, no idler left", three, g, api.Train{}, 0, api.ErrNone)
	three[5].Count = 2
	checkChoose(t, "three pairs and an idler", three, g, train(28, 10, 20, 12, 24, 14, 28), 7, api.OK)
	checkChoose(t, "four of a kind", []api.Wheel{{Teeth: 10, Count: 4}, {Teeth: 20, Count: 3}}, g, train(10, 10, 20, 10, 20, 10, 20), 7, api.OK)
}

// P1.3: the excess on both sides of 0, and its rounding.
func TestNear(t *testing.T) {
	checkNear(t, "exact", shelf(), gearing(6, true), train(0, 10, 20, 10, 30), 0, api.OK)
	checkNear(t, "no pairs", nil, gearing(3, true), train(0), 2_000_000, api.OK)
	checkNear(t, "none can be built", nil, gearing(3, false), api.Train{}, 0, api.ErrNone)
	ten := []api.Wheel{{Teeth: 10, Count: 2}}
	checkNear(t, "one kind", ten, gearing(2, false), train(0, 10, 10), 1_000_000, api.OK)
	checkNear(t, "as near, but with more wheels", []api.Wheel{{Teeth: 10, Count: 4}}, gearing(2, true), train(0), 1_000_000, api.OK)
	g := api.Gearing{Turns: 3, Rounds: 2, Pairs: 1, Room: 60}
	odd := []api.Wheel{{Teeth: 20, Count: 1}, {Teeth: 29, Count: 1}, {Teeth: 31, Count: 1}}
	checkNear(t, "rounded down below 0", odd, g, train(0, 20, 31), -32259, api.OK)
	checkNear(t, "rounded down above 0", odd[:2], g, train(0, 20, 29), 34482, api.OK)
	g = api.Gearing{Turns: 1, Rounds: 3, Pairs: 1, Room: 200}
	checkNear(t, "a whole number of millionths below 0", []api.Wheel{{Teeth: 10, Count: 1}, {Teeth: 24, Count: 1}}, g, train(0, 24, 10), -200_000, api.OK)
	g = api.Gearing{Turns: 3, Rounds: 2, Pairs: 1, Room: 200}
	below := []api.Wheel{{Teeth: 10, Count: 1}, {Teeth: 20, Count: 1}, {Teeth: 50, Count: 1}, {Teeth: 60, Count: 1}}
	checkNear(t, "as far above as below, the one below first", below, g, train(0, 10, 20), -250_000, api.OK)
	above := []api.Wheel{{Teeth: 10, Count: 1}, {Teeth: 12, Count: 1}, {Teeth: 50, Count: 1}, {Teeth: 100, Count: 1}}
	checkNear(t, "as far above as below, the one above first", above, g, train(0, 10, 12), 250_000, api.OK)
	g = api.Gearing{Turns: 1, Rounds: 1, Pairs: 3, Room: 200}
	alike := []api.Wheel{{Teeth: 96, Count: 1}, {Teeth: 97, Count: 2}, {Teeth: 98, Count: 1}, {Teeth: 99, Count: 1}, {Teeth: 100, Count: 1}}
	tr, excess, e := gear.Near(alike, g)
	best := firstNear(g, allTrains(alike, g))
	if !sameTrain(tr, *best) || excess != 0 || e != api.OK {
		t.Errorf("Near of wheels that are nearly the same returns %v, %d, %d, not %v", tr, excess, e, *best)
	}
}

// P1.4.
func TestRounds(t *testing.T) {
	example := train(0, 10, 20, 10, 30)
	for turns, rounds := range map[int]int{0: 0, 5: 0, 6: 1, 11: 1, 12: 2, 36: 6} {
		checkRounds(t, "the example", example, turns, rounds, api.OK)
	}
	checkRounds(t, "no pairs", train(0), 9, 9, api.OK)
	checkRounds(t, "an idler of 12", train(12, 10, 20), 9, 4, api.OK)
	for _, idler := range []int{-5, 5, 101, math.MinInt, math.MaxInt} {
		checkRounds(t, "an idler that is not valid", train(idler, 100, 6), 3, 50, api.OK)
		checkRounds(t, "an idler without a pair", train(idler), 3, 3, api.OK)
	}
	checkRounds(t, "as much as can be", train(0, 100, 6, 100, 6, 100, 6), 1<<30, 4_971_026_962_962, api.OK)
	checkRounds(t, "as little as can be", train(0, 6, 100, 6, 100, 6, 100), 1<<30, 231_928, api.OK)
	for _, turns := range []int{-1, 1<<30 + 1, math.MinInt, math.MaxInt} {
		checkRounds(t, "turns that are not valid", example, turns, 0, api.ErrRange)
	}
	for _, tr := range []api.Train{train(0, 5, 10), train(0, 10, 5), train(0, 101, 10), train(0, 10, 101), train(0, 10, 20, 10, 20, 0, 20), train(0, 10, 20, 10, math.MaxInt), train(0, 10, 20, 10, 20, 10, 20, 10, 20)} {
		checkRounds(t, "a train that is not valid", tr, 1, 0, api.ErrRange)
	}
}

// P1 of DOC.md: nothing panics or fails to end, whatever is given.
func TestAnyArguments(t *testing.T) {
	odd := []int{math.MinInt, -1, 0, 1, 6, 100, 101, 1000, 1 << 30, math.MaxInt}
	for _, a := range odd {
		for _, b := range odd {
			stock := []api.Wheel{{Teeth: a, Count: b}}
			g := api.Gearing{Turns: 3, Rounds: 2, Pairs: 2, Room: 100}
			gear.Choose(stock, g)
			gear.Near(stock, g)
			gear.Choose(shelf(), api.Gearing{Turns: a, Rounds: b, Pairs: 3, Room: 60})
			gear.Near(shelf(), api.Gearing{Turns: 5, Rounds: 7, Pairs: a, Room: b})
			gear.Build(shelf(), gearing(6, true), train(a, a, b, b, a))
			gear.Build(shelf(), gearing(6, true), train(a, 10, 20))
			gear.Rounds(train(a, b, a), b)
		}
	}
	many := api.Train{Pairs: make([]api.Pair, 100_000)}
	checkBuild(t, "very many pairs", shelf(), gearing(6, true), many, 0, api.ErrFull)
	checkRounds(t, "very many pairs", many, 1, 0, api.ErrRange)
}

// R3 and R4: an empty list is like nil, a result is new memory, and arguments stay as they are.
func TestMemory(t *testing.T) {
	checkChoose(t, "an empty stock", []api.Wheel{}, gearing(1, true), train(0), 0, api.OK)
	checkBuild(t, "empty pairs", shelf(), gearing(1, true), api.Train{Pairs: []api.Pair{}}, 0, api.OK)
	checkRounds(t, "empty pairs", api.Train{Pairs: []api.Pair{}}, 4, 4, api.OK)
	stock, tr := shelf(), train(12, 12, 20, 10, 36)
	gear.Build(stock, gearing(6, true), tr)
	gear.Rounds(tr, 6)
	one, _, _ := gear.Choose(stock, gearing(6, true))
	two, _, _ := gear.Near(stock, gearing(6, true))
	one.Pairs[0].Drives, stock[1].Count = 77, 0
	if !sameTrain(two, train(0, 10, 20, 10, 30)) {
		t.Error("two results share memory", two)
	}
	if stock[1].Count = 1; !slices.Equal(stock, shelf()) || !sameTrain(tr, train(12, 12, 20, 10, 36)) {
		t.Error("an argument was changed", stock, tr)
	}
	checkChoose(t, "once more", shelf(), gearing(6, true), train(0, 10, 20, 10, 30), 4, api.OK)
}
