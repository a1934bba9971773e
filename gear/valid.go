package gear

import "meterworks/api"

func isStock(stock []api.Wheel) bool {
	if len(stock) > api.MaxKinds {
		return false
	}
	for i, w := range stock {
		if !isTeeth(w.Teeth) || w.Count < 0 || w.Count > api.MaxCount {
			return false
		}
		if i > 0 && w.Teeth <= stock[i-1].Teeth {
			return false
		}
	}
	return true
}

func isGearing(g api.Gearing) bool {
	return g.Turns >= 1 && g.Turns <= api.MaxTurns &&
		g.Rounds >= 1 && g.Rounds <= api.MaxTurns &&
		g.Pairs >= 0 && g.Pairs <= api.MaxPairs &&
		g.Room >= 0 && g.Room <= 2*api.MaxTeeth
}

func isTeeth(teeth int) bool { return teeth >= api.MinTeeth && teeth <= api.MaxTeeth }

// pairsError returns what is wrong with the pairs of a train, as long as the stock is not looked at.
func pairsError(pairs []api.Pair, g api.Gearing) api.Errno {
	if len(pairs) > g.Pairs {
		return api.ErrFull
	}
	for _, p := range pairs {
		if !isTeeth(p.Drives) || !isTeeth(p.Driven) {
			return api.ErrRange
		}
		if p.Drives+p.Driven > g.Room {
			return api.ErrFull
		}
	}
	return api.OK
}
