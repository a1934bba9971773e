package gear_test

import (
	"slices"
	"testing"

	"meterworks/api"
	"meterworks/gear"
)

// P1.2, P1.3 and P1.5: against all trains there are.
func TestAgainstAllTrains(t *testing.T) {
	exact, none := 0, 0
	for _, k := range tasks(1, 1000) {
		l := allTrains(k.stock, k.g)
		got, wheels, e := gear.Choose(k.stock, k.g)
		if best := firstExact(k.g, l); best == nil {
			if e != api.ErrNone || wheels != 0 || !sameTrain(got, api.Train{}) {
				t.Fatalf("%v: Choose returns %v, %d, %d, but there is none", k, got, wheels, e)
			}
			none++
		} else {
			if e != api.OK || wheels != wheelCount(*best) || !sameTrain(got, *best) {
				t.Fatalf("%v: Choose returns %v, %d, %d, not %v", k, got, wheels, e, *best)
			}
			exact++
		}
		near, excessGot, e := gear.Near(k.stock, k.g)
		if best := firstNear(k.g, l); best == nil {
			if e != api.ErrNone || excessGot != 0 || !sameTrain(near, api.Train{}) {
				t.Fatalf("%v: Near returns %v, %d, %d, but there is none", k, near, excessGot, e)
			}
		} else if e != api.OK || !sameTrain(near, *best) || excessGot != millionths(excess(k.g, *best)) {
			t.Fatalf("%v: Near returns %v, %d, %d, not %v", k, near, excessGot, e, *best)
		}
	}
	if exact < 200 || none < 200 {
		t.Error("the tasks are too much alike", exact, none)
	}
}

// P1.1: Build accepts just the trains that can be built and are exact, whatever the order of their pairs.
func TestBuildAgainstAllTrains(t *testing.T) {
	for _, k := range tasks(2, 100) {
		full := k.g
		stock := slices.Clone(k.stock)
		for i := range stock {
			stock[i].Count = api.MaxCount
		}
		full.Room, full.Pairs = 2*api.MaxTeeth, min(2, k.g.Pairs)
		both := allTrains(stock, full)
		full.Same = !full.Same
		both = append(both, allTrains(stock, full)...)
		for _, tr := range both {
			wheels, e := gear.Build(k.stock, k.g, tr)
			if canBuild(k.stock, k.g, tr) && excess(k.g, tr).Sign() == 0 {
				if wheels != wheelCount(tr) || e != api.OK {
					t.Fatalf("%v: Build of %v returns %d, %d", k, tr, wheels, e)
				}
			} else if wheels != 0 || e == api.OK {
				t.Fatalf("%v: Build of %v returns %d, %d, but it cannot be, or is not exact", k, tr, wheels, e)
			}
			slices.Reverse(tr.Pairs)
			if again, e2 := gear.Build(k.stock, k.g, tr); again != wheels || e2 != e {
				t.Fatalf("%v: the order of the pairs %v makes a difference", k, tr)
			}
		}
	}
}

// P1.5 (litres): an exact train turns its drum as often as the gearing says; Build accepts what Choose returns; Near is exact if Choose is.
func TestLitres(t *testing.T) {
	for _, k := range tasks(3, 1000) {
		near, part, nearE := gear.Near(k.stock, k.g)
		tr, wheels, e := gear.Choose(k.stock, k.g)
		if e != api.OK {
			if nearE == api.OK && excess(k.g, near).Sign() == 0 {
				t.Fatalf("%v: Near found an exact train, Choose none", k)
			}
			continue
		}
		if built, e := gear.Build(k.stock, k.g, tr); built != wheels || e != api.OK {
			t.Fatalf("%v: Build of the train chosen, %v, returns %d, %d", k, tr, built, e)
		}
		if nearE != api.OK || part != 0 || !sameTrain(near, tr) {
			t.Fatalf("%v: Near returns %v, %d, %d, but %v is exact", k, near, part, nearE, tr)
		}
		for _, times := range []int{0, 1, 2, 7, 1000, api.MaxStroke / k.g.Turns} {
			checkRounds(t, "an exact train", tr, times*k.g.Turns, times*k.g.Rounds, api.OK)
			slices.Reverse(tr.Pairs)
			checkRounds(t, "its pairs the other way about", tr, times*k.g.Turns, times*k.g.Rounds, api.OK)
			slices.Reverse(tr.Pairs)
		}
	}
}

// P1.5 and P1.6 where not all trains can be tried one by one: pairs of the most kinds.
func TestManyKinds(t *testing.T) {
	stock := []api.Wheel{{Teeth: 7, Count: 4}, {Teeth: 11, Count: 4}, {Teeth: 13, Count: 4}, {Teeth: 17, Count: 4}, {Teeth: 19, Count: 4}, {Teeth: 23, Count: 4}, {Teeth: 29, Count: 4}, {Teeth: 31, Count: 4}}
	g := api.Gearing{Turns: 29 * 31, Rounds: 7 * 7, Pairs: 3, Room: 60, Same: true}
	checkChoose(t, "primes", stock, g, train(0, 7, 29, 7, 31), 4, api.OK)
	g.Room = 37
	checkChoose(t, "primes with less room", stock, g, api.Train{}, 0, api.ErrNone)
	g = api.Gearing{Turns: 997, Rounds: 991, Pairs: 3, Room: 200}
	tr, part, e := gear.Near(stock, g)
	if e != api.OK || part != millionths(excess(g, tr)) || !canBuild(stock, g, tr) {
		t.Fatal(tr, part, e)
	}
	for _, u := range []api.Train{train(0, 7, 7), train(7, 29, 31, 31, 29), train(0, 31, 29, 29, 31, 17, 17), train(0, 11, 7, 17, 19, 17, 23)} {
		if canBuild(stock, g, u) && distance(g, u).Cmp(distance(g, tr)) < 0 {
			t.Error("a train is nearer than the nearest one", u, tr)
		}
	}
}

// richer returns tasks with more in stock, more Room, or more Pairs.
func richer(k task) []task {
	var out []task
	for i := range k.stock {
		if k.stock[i].Count < api.MaxCount {
			more := slices.Clone(k.stock)
			more[i].Count++
			out = append(out, task{more, k.g})
		}
	}
	added := append([]api.Wheel{{Teeth: 7, Count: 2}}, k.stock...)
	slices.SortFunc(added, func(a, b api.Wheel) int { return a.Teeth - b.Teeth })
	out = append(out, task{added, k.g})
	room, pairs := k.g, k.g
	room.Room += 9
	pairs.Pairs = min(pairs.Pairs+1, api.MaxPairs)
	return append(out, task{k.stock, room}, task{k.stock, pairs})
}

// P1.6 (stock): more of anything makes nothing worse.
func TestMoreIsNoWorse(t *testing.T) {
	for _, k := range tasks(4, 300) {
		_, wheels, chosen := gear.Choose(k.stock, k.g)
		near, _, found := gear.Near(k.stock, k.g)
		for _, more := range richer(k) {
			if _, moreWheels, e := gear.Choose(more.stock, more.g); chosen == api.OK && (e != api.OK || moreWheels > wheels) {
				t.Fatalf("%v: with more, %v, Choose needs %d wheels, not %d (%d)", k, more, moreWheels, wheels, e)
			}
			if moreNear, _, e := gear.Near(more.stock, more.g); found == api.OK && (e != api.OK || distance(more.g, moreNear).Cmp(distance(k.g, near)) > 0) {
				t.Fatalf("%v: with more, %v, Near returns %v, not %v (%d)", k, more, moreNear, near, e)
			}
		}
	}
}

// P1.6 (stock): twice the Turns and twice the Rounds change nothing.
func TestTwiceAsMany(t *testing.T) {
	for _, k := range tasks(5, 200) {
		for _, times := range []int{2, 3, 83} {
			g := k.g
			g.Turns, g.Rounds = times*g.Turns, times*g.Rounds
			if max(g.Turns, g.Rounds) > api.MaxTurns {
				continue
			}
			tr, wheels, e := gear.Choose(k.stock, k.g)
			checkChoose(t, "more turns and rounds", k.stock, g, tr, wheels, e)
			near, part, e := gear.Near(k.stock, k.g)
			checkNear(t, "more turns and rounds", k.stock, g, near, part, e)
			if tr, _, e := gear.Choose(k.stock, k.g); e == api.OK {
				checkBuild(t, "more turns and rounds", k.stock, g, tr, wheels, api.OK)
			}
		}
	}
}
