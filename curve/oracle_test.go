package curve_test

import (
	"math/rand"
	"slices"

	"meterworks/api"
)

// The functions of this file follow the words of the document as plainly as they can. Those of the first part write out each curve,
// from Start on to MaxFlow; Start has to be near MaxFlow for it. Those of the second part try each flow as the peak.

// shape is a curve that was written out: its errors from Start on.
type shape []int

// isPeak reports whether the errors never fall before an index, and never rise after it.
func (s shape) isPeak(index int) bool {
	for i := 1; i < len(s); i++ {
		if i <= index && s[i] < s[i-1] || i > index && s[i] > s[i-1] {
			return false
		}
	}
	return true
}

// peaks returns the span of the indexes that are peaks.
func (s shape) peaks() (peaks api.Span, ok bool) {
	for i := range s {
		if s.isPeak(i) {
			peaks = widened(peaks, api.Span{Lo: i, Hi: i}, ok)
			ok = true
		}
	}
	return peaks, ok
}

func (s shape) at(start, flow int) int {
	if flow < start {
		return -1000
	}
	return s[flow-start]
}

func (s shape) keeps(start int, b api.Band) bool {
	for flow := b.From; flow <= b.To; flow++ {
		if e := s.at(start, flow); e < -b.Most || e > b.Most {
			return false
		}
	}
	return true
}

// widened returns both spans as one; only the new one if there was none before.
func widened(old, new api.Span, found bool) api.Span {
	if !found {
		return new
	}
	return api.Span{Lo: min(old.Lo, new.Lo), Hi: max(old.Hi, new.Hi)}
}

// errorAt returns the errors that the point of a flow allows, or all errors if there is no point.
func errorAt(c api.Curve, flow int) api.Span {
	for _, p := range c.Points {
		if p.Flow == flow {
			return p.Error
		}
	}
	return api.Span{Lo: -1000, Hi: 1000}
}

// nearPoints reports whether an error at a flow can be that of some curve, as far as it can change between the flow and each point.
func nearPoints(c api.Curve, flow, e int) bool {
	for _, p := range c.Points {
		if far := c.Steep * distance(flow, p.Flow); e < p.Error.Lo-far || e > p.Error.Hi+far {
			return false
		}
	}
	return true
}

func distance(a, b int) int { return max(a-b, b-a) }

// shapesOf returns all curves of a kind.
func shapesOf(c api.Curve) []shape {
	var out []shape
	var grow func(s shape)
	grow = func(s shape) {
		flow := c.Start + len(s)
		if flow > api.MaxFlow {
			if _, ok := s.peaks(); ok {
				out = append(out, slices.Clone(s))
			}
			return
		}
		from, to := -1000, 1000
		if len(s) > 0 {
			from, to = s[len(s)-1]-c.Steep, s[len(s)-1]+c.Steep
		}
		allowed := errorAt(c, flow)
		for e := max(from, allowed.Lo); e <= min(to, allowed.Hi); e++ {
			if nearPoints(c, flow, e) {
				grow(append(s, e))
			}
		}
	}
	grow(nil)
	return out
}

func floorDiv(a, b int) int {
	q := a / b
	if a%b != 0 && (a < 0) != (b < 0) {
		q--
	}
	return q
}

// litres rounds thousandths of litres outward.
func litres(s api.Span) api.Span {
	return api.Span{Lo: floorDiv(s.Lo, 1000), Hi: -floorDiv(-s.Hi, 1000)}
}

// toward returns how many steps from one flow to another lead toward a peak; all others lead away from it.
func toward(from, to, peak int) int {
	if from < to {
		return max(0, min(to, peak)-from)
	}
	return max(0, from-max(to, peak))
}

// canPeak reports whether there is a curve of a kind with some peak: whether the error can get from each point to each other one.
func canPeak(c api.Curve, peak int) bool {
	for _, p := range c.Points {
		for _, q := range c.Points {
			if q.Error.Lo > p.Error.Hi+c.Steep*toward(p.Flow, q.Flow, peak) {
				return false
			}
		}
	}
	return true
}

// errorsAt returns the errors at a flow from Start on, of all curves with a peak that can be.
func errorsAt(c api.Curve, peak, flow int) api.Span {
	s := api.Span{Lo: -1000, Hi: 1000}
	for _, p := range c.Points {
		s.Hi = min(s.Hi, p.Error.Hi+c.Steep*toward(p.Flow, flow, peak))
		s.Lo = max(s.Lo, p.Error.Lo-c.Steep*toward(flow, p.Flow, peak))
	}
	return s
}

// peaksOf returns all flows that can be the peak.
func peaksOf(c api.Curve) []int {
	var out []int
	for peak := c.Start; peak <= api.MaxFlow; peak++ {
		if canPeak(c, peak) {
			out = append(out, peak)
		}
	}
	return out
}

// atOf returns what At returns, if some flows can be the peak.
func atOf(c api.Curve, peaks []int, flow int) api.Span {
	if flow < c.Start {
		return api.Span{Lo: -1000, Hi: -1000}
	}
	var s api.Span
	for i, peak := range peaks {
		s = widened(s, errorsAt(c, peak, flow), i > 0)
	}
	return s
}

// shownOf returns what Shown returns, if some flows can be the peak: with one peak, all errors can be least, or greatest, together.
func shownOf(c api.Curve, peaks []int, l []api.Draw) api.Span {
	var s api.Span
	for i, peak := range peaks {
		var sum api.Span
		for _, d := range l {
			e := atOf(c, []int{peak}, d.Flow)
			sum.Lo += d.Litres * (1000 + e.Lo)
			sum.Hi += d.Litres * (1000 + e.Hi)
		}
		s = widened(s, sum, i > 0)
	}
	return litres(s)
}

// keepsOf returns what Keeps returns, if some flows can be the peak. It looks at each flow of each band.
func keepsOf(c api.Curve, peaks []int, l []api.Band) int {
	each := true
	kept := c
	for _, b := range l {
		for flow := b.From; flow <= b.To; flow++ {
			if e := atOf(c, peaks, flow); e.Lo < -b.Most || e.Hi > b.Most {
				each = false
			}
			if flow < c.Start && b.Most < 1000 {
				return api.NoCurve
			}
			if flow >= c.Start {
				kept.Points = append(slices.Clone(kept.Points), api.Point{Flow: flow, Error: api.Span{Lo: -b.Most, Hi: b.Most}})
			}
		}
	}
	switch {
	case each:
		return api.AllCurves
	case len(peaksOf(kept)) > 0:
		return api.SomeCurves
	}
	return api.NoCurve
}

func pick(r *rand.Rand, l ...int) int { return l[r.Intn(len(l))] }

// anyCurve returns a kind of curves from some Start on; some of them have no curve.
// The points are those of a made-up curve, between bounds that are at most wide apart, some of them set off.
func anyCurve(r *rand.Rand, start, points, steep, wide int) api.Curve {
	c := api.Curve{Start: start, Steep: steep}
	var flows []int
	for range points {
		flows = append(flows, start+r.Intn(api.MaxFlow-start+1))
	}
	slices.Sort(flows)
	peak := start + r.Intn(api.MaxFlow-start+1)
	top := pick(r, 1000, -1000+3*steep, r.Intn(2001)-1000, r.Intn(41)-20, r.Intn(41)-20)
	left, right := r.Intn(steep+1), r.Intn(steep+1)
	off := 0
	if r.Intn(3) == 0 {
		off = r.Intn(2*steep + 3)
	}
	for _, flow := range slices.Compact(flows) {
		e := top - left*max(0, peak-flow) - right*max(0, flow-peak)
		c.Points = append(c.Points, api.Point{Flow: flow, Error: api.Span{Lo: e, Hi: e}})
	}
	for i := range c.Points {
		s := &c.Points[i].Error
		s.Lo = min(max(s.Lo-r.Intn(wide+1)+off*r.Intn(2), -1000), 1000)
		s.Hi = min(max(s.Hi+r.Intn(wide+1), s.Lo), 1000)
	}
	return c
}

func anyDraws(r *rand.Rand, c api.Curve) []api.Draw {
	var l []api.Draw
	for range r.Intn(api.MaxDraws + 1) {
		l = append(l, api.Draw{Flow: anyFlow(r, c), Litres: pick(r, 0, 1, 7, 999, 1000, 123_456, api.MaxLitres)})
	}
	return l
}

// anyFlow returns a flow, seldom less than Start, often that of a point or next to it.
func anyFlow(r *rand.Rand, c api.Curve) int {
	flow := c.Start + r.Intn(api.MaxFlow-c.Start+1)
	switch {
	case r.Intn(12) == 0:
		flow = c.Start - 1 - r.Intn(3)
	case len(c.Points) > 0 && r.Intn(3) == 0:
		flow = c.Points[r.Intn(len(c.Points))].Flow + r.Intn(3) - 1
	}
	return min(max(flow, 0), api.MaxFlow)
}

// anyBands returns bands, many of them with a Most that decides something.
func anyBands(r *rand.Rand, c api.Curve, peaks []int) []api.Band {
	var l []api.Band
	for range r.Intn(api.MaxBands + 1) {
		from, to := anyFlow(r, c), anyFlow(r, c)
		b := api.Band{From: min(from, to), To: max(from, to), Most: pick(r, 0, 1000, r.Intn(1001))}
		e := atOf(c, peaks, anyFlow(r, c))
		if r.Intn(4) > 0 {
			b.Most = min(max(pick(r, e.Lo, -e.Lo, e.Hi, -e.Hi, max(-e.Lo, e.Hi))+r.Intn(5)-2, 0), 1000)
		}
		l = append(l, b)
	}
	return l
}
