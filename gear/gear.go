// Package gear is layer 1: see shared/doc/01-gear.md.
package gear

import "meterworks/api"

// Build returns how many wheels a train has, if it can be built, and is exact.
func Build(stock []api.Wheel, g api.Gearing, t api.Train) (wheels int, e api.Errno) {
	if !isStock(stock) || !isGearing(g) {
		return 0, api.ErrArg
	}
	if e := pairsError(t.Pairs, g); e != api.OK {
		return 0, e
	}
	used := wheelsOf(t)
	switch {
	case t.Idler != 0 && len(t.Pairs) == 0:
		return 0, api.ErrState
	case t.Idler != 0 && !isTeeth(t.Idler):
		return 0, api.ErrRange
	case !newShelf(stock).take(used...):
		return 0, api.ErrShort
	case turnsSame(len(t.Pairs), t.Idler) != g.Same:
		return 0, api.ErrOrder
	case !aimOf(g).exact(ratioOf(t.Pairs)):
		return 0, api.ErrRefuse
	}
	return len(used), api.OK
}

// Choose returns the first train that is exact.
func Choose(stock []api.Wheel, g api.Gearing) (t api.Train, wheels int, e api.Errno) {
	if !isStock(stock) || !isGearing(g) {
		return api.Train{}, 0, api.ErrArg
	}
	a := aimOf(g)
	best, found := search(stock, g, a.exact, a.nearer)
	if !found || !a.exact(best.ratio) {
		return api.Train{}, 0, api.ErrNone
	}
	t = best.train()
	return t, len(wheelsOf(t)), api.OK
}

// Near returns the train that comes nearest.
func Near(stock []api.Wheel, g api.Gearing) (t api.Train, excess int, e api.Errno) {
	if !isStock(stock) || !isGearing(g) {
		return api.Train{}, 0, api.ErrArg
	}
	a := aimOf(g)
	best, found := search(stock, g, a.exact, a.nearer)
	if !found {
		return api.Train{}, 0, api.ErrNone
	}
	return best.train(), a.millionths(best.ratio), api.OK
}

// Rounds returns how often the drum has turned.
func Rounds(t api.Train, turns int) (int, api.Errno) {
	if len(t.Pairs) > api.MaxPairs || turns < 0 || turns > api.MaxStroke {
		return 0, api.ErrRange
	}
	for _, p := range t.Pairs {
		if !isTeeth(p.Drives) || !isTeeth(p.Driven) {
			return 0, api.ErrRange
		}
	}
	r := ratioOf(t.Pairs)
	return product(turns, r.drives) / r.driven, api.OK
}
