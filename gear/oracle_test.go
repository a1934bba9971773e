package gear_test

import (
	"math/big"
	"math/rand"
	"slices"

	"meterworks/api"
)

// The functions of this file follow the words of the document as plainly as they can: they try every train there is.

func train(idler int, teeth ...int) api.Train {
	t := api.Train{Idler: idler}
	for i := 0; i+1 < len(teeth); i += 2 {
		t.Pairs = append(t.Pairs, api.Pair{Drives: teeth[i], Driven: teeth[i+1]})
	}
	return t
}

func sameTrain(a, b api.Train) bool { return slices.Equal(a.Pairs, b.Pairs) && a.Idler == b.Idler }

func wheelCount(t api.Train) int {
	if t.Idler == 0 {
		return 2 * len(t.Pairs)
	}
	return 2*len(t.Pairs) + 1
}

// canBuild says whether a train of kinds of the stock can be built, exact or not.
func canBuild(stock []api.Wheel, g api.Gearing, t api.Train) bool {
	if len(t.Pairs) > g.Pairs || t.Idler != 0 && len(t.Pairs) == 0 {
		return false
	}
	left := map[int]int{}
	for _, w := range stock {
		left[w.Teeth] = w.Count
	}
	meshes := len(t.Pairs)
	if t.Idler != 0 {
		meshes++
		left[t.Idler]--
	}
	for _, p := range t.Pairs {
		if p.Drives+p.Driven > g.Room {
			return false
		}
		left[p.Drives]--
		left[p.Driven]--
	}
	for _, n := range left {
		if n < 0 {
			return false
		}
	}
	return g.Same == (meshes%2 == 0)
}

func excess(g api.Gearing, t api.Train) *big.Rat {
	drives, driven := int64(g.Turns), int64(g.Rounds)
	for _, p := range t.Pairs {
		drives *= int64(p.Drives)
		driven *= int64(p.Driven)
	}
	return big.NewRat(drives-driven, driven)
}

// distance says how far the excess of a train is from 0.
func distance(g api.Gearing, t api.Train) *big.Rat {
	e := excess(g, t)
	return e.Abs(e)
}

func millionths(e *big.Rat) int {
	n := new(big.Int).Mul(e.Num(), big.NewInt(1_000_000))
	return int(n.Div(n, e.Denom()).Int64()) // with a divisor above 0, Div rounds down
}

func compare(a, b int) int {
	switch {
	case a < b:
		return -1
	case a > b:
		return 1
	}
	return 0
}

// order is below 0 if a comes before b, and above 0 if b comes before a.
func order(a, b api.Train) int {
	if c := compare(wheelCount(a), wheelCount(b)); c != 0 {
		return c
	}
	for i, p := range a.Pairs {
		if c := compare(p.Drives, b.Pairs[i].Drives); c != 0 {
			return c
		}
		if c := compare(p.Driven, b.Pairs[i].Driven); c != 0 {
			return c
		}
	}
	return compare(a.Idler, b.Idler)
}

// allTrains returns all trains that can be built, their pairs in every order.
func allTrains(stock []api.Wheel, g api.Gearing) []api.Train {
	var out []api.Train
	var grow func(pairs []api.Pair)
	grow = func(pairs []api.Pair) {
		idlers := []int{0}
		for _, w := range stock {
			idlers = append(idlers, w.Teeth)
		}
		for _, idler := range idlers {
			if t := (api.Train{Pairs: pairs, Idler: idler}); canBuild(stock, g, t) {
				out = append(out, t)
			}
		}
		if len(pairs) == g.Pairs {
			return
		}
		for _, a := range stock {
			for _, b := range stock {
				grow(append(slices.Clone(pairs), api.Pair{Drives: a.Teeth, Driven: b.Teeth}))
			}
		}
	}
	grow(nil)
	return out
}

// firstExact returns the first of the trains that is exact, and firstNear the first of those nearest to 0; nil if there is none.
func firstExact(g api.Gearing, l []api.Train) *api.Train {
	var best *api.Train
	for _, t := range l {
		if excess(g, t).Sign() == 0 && (best == nil || order(t, *best) < 0) {
			best = &t
		}
	}
	return best
}

func firstNear(g api.Gearing, l []api.Train) *api.Train {
	var best *api.Train
	for _, t := range l {
		if best == nil {
			best = &t
			continue
		}
		c := distance(g, t).Cmp(distance(g, *best))
		if c < 0 || c == 0 && order(t, *best) < 0 {
			best = &t
		}
	}
	return best
}

// task is a stock and a gearing.
type task struct {
	stock []api.Wheel
	g     api.Gearing
}

// aimAtTrain gives a task the ratio of some train of its wheels, if its numbers are small enough.
func aimAtTrain(r *rand.Rand, k *task) {
	var pairs []api.Pair
	for range r.Intn(k.g.Pairs + 1) {
		pairs = append(pairs, api.Pair{Drives: k.stock[r.Intn(len(k.stock))].Teeth, Driven: k.stock[r.Intn(len(k.stock))].Teeth})
	}
	one := big.NewRat(1, 1)
	ratio := one.Add(one, excess(api.Gearing{Turns: 1, Rounds: 1}, api.Train{Pairs: pairs}))
	if turns, rounds := int(ratio.Denom().Int64()), int(ratio.Num().Int64()); turns <= 500 && rounds <= 500 {
		k.g.Turns, k.g.Rounds = turns, rounds
	}
}

// tasks returns n made-up tasks, always the same ones, whose trains can all be tried.
func tasks(seed int64, n int) []task {
	r := rand.New(rand.NewSource(seed))
	teeth := []int{6, 8, 9, 10, 12, 15, 18, 20, 24, 30, 36, 50, 60, 100}
	var out []task
	for range n {
		k := task{g: api.Gearing{Turns: 1 + r.Intn(12), Rounds: 1 + r.Intn(6), Same: r.Intn(2) == 0, Pairs: r.Intn(4), Room: 12 + r.Intn(80)}}
		kinds := 2 + r.Intn(4)
		if k.g.Pairs == 3 {
			kinds = 2 + r.Intn(2)
		}
		chosen := r.Perm(len(teeth))[:kinds]
		slices.Sort(chosen)
		for _, i := range chosen {
			k.stock = append(k.stock, api.Wheel{Teeth: teeth[i], Count: r.Intn(5)})
		}
		if r.Intn(3) > 0 {
			aimAtTrain(r, &k)
		}
		out = append(out, k)
	}
	return out
}
