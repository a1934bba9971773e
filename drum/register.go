package drum

import "meterworks/api"

func isRegister(r api.Register) bool {
	return r.Drums >= 1 && r.Drums <= api.MaxDrums && isTotal(r.Start, r.Drums)
}

func isTotal(total, drums int) bool { return total >= 0 && total < turnOf(drums) }

// turnOf returns after how many thousandths all drums stand again as they did.
func turnOf(drums int) int {
	turn := figureSize
	for range drums {
		turn *= 10
	}
	return turn
}

// runsError returns what is wrong with a register, or with its runs.
func runsError(r api.Register, runs []int) api.Errno {
	switch {
	case !isRegister(r):
		return api.ErrArg
	case len(runs) > api.MaxRuns:
		return api.ErrLong
	}
	for _, run := range runs {
		if run < -api.MaxRun || run > api.MaxRun {
			return api.ErrRange
		}
	}
	return api.OK
}

func totalAfter(r api.Register, runs []int) int {
	total := r.Start
	for _, run := range runs {
		total += run
	}
	return modulo(total, turnOf(r.Drums))
}

// modulo returns a number from 0 on also where Go's remainder is below 0; n is above 0.
func modulo(a, n int) int { return (a%n + n) % n }
