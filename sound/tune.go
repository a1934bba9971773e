package sound

import "meterworks/api"

// numbers are the least number and the greatest one.
type numbers [2]int

// by returns the numbers that so many times are these, the least one rounded down and the greatest one up.
func (n numbers) by(share int) api.Span {
	if share < 0 {
		n[0], n[1] = n[1], n[0]
	}
	return api.Span{Lo: down(n[0], share), Hi: up(n[1], share)}
}

// tuned returns the line with the numbers that its pipes have in all truths in which the lag of a noise at a place is one of lag.
// There has to be such a truth.
func (x ears) tuned(at int, lag api.Span) line {
	out := make(line, len(x.line))
	copy(out, x.line)
	all := x.lags(at)
pipes:
	for i, share := range x.shares(at) {
		if share == 0 {
			continue pipes
		}
		// What the other pipes can add to the lag leaves this one the rest of it.
		slow := x.line[i].Slow
		others := api.Span{Lo: all.Lo - least{}.of(share, slow), Hi: all.Hi - greatest{}.of(share, slow)}
		rest := numbers{lag.Lo - others.Hi, lag.Hi - others.Lo}
		out[i].Slow = cut(slow, rest.by(share))
	}
	return out
}

// down divides, and rounds down. Go's division rounds toward 0.
func down[N int | int64](over, under N) N {
	whole := over / under
	if over%under != 0 && (over < 0) != (under < 0) {
		whole--
	}
	return whole
}

// up divides, and rounds up.
func up[N int | int64](over, under N) N { return -down(-over, under) }
