package curve

import (
	"iter"
	"slices"
	"sort"

	"meterworks/api"
)

// gap is the flows from one mark to the next one, with both of them: peaks are those that can be the peak.
// The marks on both sides come from the nearest one on, with the bounds that hold whichever of these flows is the peak.
type gap struct {
	steep        int
	below, above []mark
	peaks        api.Span
}

// gaps gives the gaps in which the peak can be. After the last mark there is none: its own gap is that flow alone.
func (l line) gaps() iter.Seq[gap] {
	return func(yield func(gap) bool) {
		carry := towardPeak(l.steep).carry
		rising := run(l.marks, carry)
		falling := run(reversed(l.marks), carry)
	gaps:
		for i := range rising {
			above := len(l.marks) - min(i+1, len(l.marks)-1)
			if above > len(falling) {
				continue gaps
			}
			g := gap{steep: l.steep, below: reversed(rising[:i+1]), above: reversed(falling[:above])}
			g.peaks = g.findPeaks()
			switch {
			case isEmpty(g.peaks):
				continue gaps
			case !yield(g):
				break gaps
			}
		}
	}
}

// findPeaks returns the flows that can be the peak. From the lower mark the error has to reach the least one at the upper mark,
// for which the peak may be too low, and from the upper mark the least one at the lower mark, for which it may be too high.
func (g gap) findPeaks() api.Span {
	low, high := g.below[0], g.above[0]
	carry := towardPeak(g.steep).carry
	flows := high.flow - low.flow
	return api.Span{
		Lo: low.flow + sort.Search(flows+1, func(n int) bool { return carry(low.bounds, n).Hi >= high.bounds.Lo }),
		Hi: high.flow - sort.Search(flows+1, func(n int) bool { return carry(high.bounds, n).Hi >= low.bounds.Lo }),
	}
}

// highest returns the first flow at which the greatest error that carries over from the lower mark is not less than that from the
// upper one. With the peak there, or at the flow before it, the error at the peak can be greatest.
func (g gap) highest() int {
	low, high := g.below[0], g.above[0]
	carry := towardPeak(g.steep).carry
	flows := high.flow - low.flow
	return low.flow + sort.Search(flows, func(n int) bool {
		return carry(low.bounds, n).Hi >= carry(high.bounds, flows-n).Hi
	})
}

// tried returns the peaks that need be tried: with no other one of the gap a bound at a mark, or at the peak, reaches farther.
// If the upper mark has the greater Hi, the peak at that mark leaves all greatest errors on both sides as they are; otherwise the
// peak at the lower mark does. If the upper mark has the greater Lo, no peak is lower than that, and the later the peak comes,
// the less the errors before it can be; otherwise the earlier it comes, the less those after it. So for all marks together the
// first peak or the last one is best, also where errors are added up. Only the error at the peak itself is greatest in between.
func (g gap) tried() []int {
	highest := g.highest()
	var peaks []int
	for _, peak := range [4]int{g.peaks.Lo, highest - 1, highest, g.peaks.Hi} {
		peaks = append(peaks, min(max(peak, g.peaks.Lo), g.peaks.Hi))
	}
	return slices.Compact(peaks)
}

// top returns the bounds of the error at a peak.
func (g gap) top(peak int) api.Span {
	low, high := g.below[0], g.above[0]
	carry := towardPeak(g.steep).carry
	both := meet(carry(low.bounds, peak-low.flow), carry(high.bounds, high.flow-peak))
	return meet(both, errorsWithin(api.MaxWrong))
}

// try returns the bounds at all marks if a flow is the peak.
func (g gap) try(peak int) trial {
	top := []mark{{peak, g.top(peak)}}
	carry := fromPeak(g.steep).carry
	below := run(slices.Concat(top, g.below), carry)
	above := run(slices.Concat(top, g.above), carry)
	return trial{peak, append(below, above...)}
}

func reversed(marks []mark) []mark {
	out := slices.Clone(marks)
	slices.Reverse(out)
	return out
}
