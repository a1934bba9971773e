package curve

import (
	"iter"
	"slices"

	"meterworks/api"
)

// line is what is known of the curves at some flows from Start on: those of the points, those that are asked for, and both ends.
type line struct {
	start, steep int
	marks        []mark
}

func newLine(c api.Curve, asked ...int) line {
	l := line{start: c.Start, steep: c.Steep}
	for m := range merged(c.Points, otherFlows(c, asked)) {
		l.marks = append(l.marks, m)
	}
	return l
}

// otherFlows returns the flows of a line that are not those of points, rising, each of them once.
func otherFlows(c api.Curve, asked []int) []int {
	there := map[int]bool{}
	for _, p := range c.Points {
		there[p.Flow] = true
	}
	var flows []int
	for _, flow := range append([]int{c.Start, api.MaxFlow}, asked...) {
		if flow >= c.Start && !there[flow] {
			there[flow] = true
			flows = append(flows, flow)
		}
	}
	slices.Sort(flows)
	return flows
}

// merged gives the points, and the flows of which nothing is known, by their flows, rising.
func merged(points []api.Point, flows []int) iter.Seq[mark] {
	return func(yield func(mark) bool) {
		for i, j := 0, 0; i < len(points) || j < len(flows); {
			var m mark
			if j == len(flows) || i < len(points) && points[i].Flow < flows[j] {
				m = mark{points[i].Flow, points[i].Error}
				i++
			} else {
				m = mark{flows[j], errorsWithin(api.MaxWrong)}
				j++
			}
			if !yield(m) {
				return
			}
		}
	}
}

// possible reports whether there is a curve at all.
func (l line) possible() bool {
	for range l.gaps() {
		return true
	}
	return false
}

// trials gives the bounds at the marks for the peaks that need be tried.
func (l line) trials() iter.Seq[trial] {
	return func(yield func(trial) bool) {
		for g := range l.gaps() {
			for _, peak := range g.tried() {
				if !yield(g.try(peak)) {
					return
				}
			}
		}
	}
}

// widest returns the span from the least to the greatest that value is for any curve.
// Value has to be the bounds at marks, added up, each as often as one likes; or those at a mark, or the peak, alone.
func (l line) widest(value func(trial) api.Span) api.Span { return widen(l.trials(), value) }
