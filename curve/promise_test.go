package curve_test

import (
	"math/rand"
	"slices"
	"testing"

	"meterworks/api"
	"meterworks/curve"
)

// checkShapes checks all functions against all curves of a kind, written out, and returns how many there are.
func checkShapes(t *testing.T, r *rand.Rand, c api.Curve) int {
	shapes := shapesOf(c)
	if len(shapes) == 0 {
		checkAll(t, "no curve can be written out", c, api.ErrState)
		return 0
	}
	var peaks api.Span
	for i, s := range shapes {
		own, _ := s.peaks()
		peaks = widened(peaks, span(own.Lo+c.Start, own.Hi+c.Start), i > 0)
	}
	checkPeak(t, "all curves", c, peaks, api.OK)
	for flow := max(0, c.Start-2); flow <= api.MaxFlow; flow++ {
		var errors api.Span
		for i, s := range shapes {
			e := s.at(c.Start, flow)
			errors = widened(errors, span(e, e), i > 0)
		}
		checkAt(t, "all curves", c, flow, errors, api.OK)
	}
	draws := anyDraws(r, c)
	var shown api.Span
	for i, s := range shapes {
		sum := 0
		for _, d := range draws {
			sum += d.Litres * (1000 + s.at(c.Start, d.Flow))
		}
		shown = widened(shown, span(sum, sum), i > 0)
	}
	checkShown(t, "all curves", c, draws, litres(shown), api.OK)
	for range 4 {
		checkKeepsOfShapes(t, c, shapes, anyBands(r, c, peaksOf(c)))
	}
	return len(shapes)
}

func checkKeepsOfShapes(t *testing.T, c api.Curve, shapes []shape, bands []api.Band) {
	keep := 0
	for _, s := range shapes {
		if !slices.ContainsFunc(bands, func(b api.Band) bool { return !s.keeps(c.Start, b) }) {
			keep++
		}
	}
	want := api.SomeCurves
	switch keep {
	case len(shapes):
		want = api.AllCurves
	case 0:
		want = api.NoCurve
	}
	checkKeeps(t, "all curves", c, bands, want, api.OK)
}

// P3.1 to P3.5: against all curves of a kind, which are few as there are few flows; so at both ends of each span there is one.
func TestAgainstAllCurves(t *testing.T) {
	r := rand.New(rand.NewSource(1))
	none, most := 0, 0
	for range 1500 {
		flows := 1 + r.Intn(6)
		n := checkShapes(t, r, anyCurve(r, api.MaxFlow+1-flows, 1+r.Intn(flows), r.Intn(4), r.Intn(4)))
		if n == 0 {
			none++
		}
		most = max(most, n)
		if t.Failed() {
			return
		}
	}
	if none < 50 || most < 500 {
		t.Error("the kinds are too much alike", none, most)
	}
	for _, c := range []api.Curve{kind(api.MaxFlow, 7), kind(api.MaxFlow-1, 3), kind(api.MaxFlow-2, 1), kind(api.MaxFlow-3, 0), kind(api.MaxFlow-3, 1)} {
		checkShapes(t, r, c)
	}
}

// checkPeaks checks all functions against all peaks that can be, and returns how many there are.
func checkPeaks(t *testing.T, r *rand.Rand, c api.Curve, bands bool) int {
	peaks := peaksOf(c)
	if len(peaks) == 0 {
		checkAll(t, "no flow can be the peak", c, api.ErrState)
		return 0
	}
	checkPeak(t, "all peaks", c, span(peaks[0], peaks[len(peaks)-1]), api.OK)
	for range 4 {
		flow := anyFlow(r, c)
		checkAt(t, "all peaks", c, flow, atOf(c, peaks, flow), api.OK)
	}
	draws := anyDraws(r, c)
	checkShown(t, "all peaks", c, draws, shownOf(c, peaks, draws), api.OK)
	for range 2 {
		if bands {
			l := anyBands(r, c, peaks)
			checkKeeps(t, "all peaks", c, l, keepsOf(c, peaks, l), api.OK)
		}
	}
	return len(peaks)
}

// P3.1 to P3.4: against each flow that can be the peak, of some tens of flows; each flow of each band is looked at.
func TestAgainstAllPeaks(t *testing.T) {
	r := rand.New(rand.NewSource(2))
	none, one := 0, 0
	for range 1500 {
		flows := 1 + r.Intn(40)
		steep := pick(r, 0, 1, 2, 20, 300, 1000)
		switch checkPeaks(t, r, anyCurve(r, api.MaxFlow+1-flows, r.Intn(api.MaxPoints+1), steep, pick(r, 0, 2, 3*steep+1)), true) {
		case 0:
			none++
		case 1:
			one++
		}
		if t.Failed() {
			return
		}
	}
	if none < 50 || one < 20 {
		t.Error("the kinds are too much alike", none, one)
	}
}

// P3.1 to P3.3: the same for all flows there are.
func TestAgainstAllPeaksOfAllFlows(t *testing.T) {
	r := rand.New(rand.NewSource(3))
	for range 60 {
		c := anyCurve(r, pick(r, 0, 10, r.Intn(api.MaxFlow)), r.Intn(api.MaxPoints+1), pick(r, 0, 0, 1, 1, 2), pick(r, 0, 20, 900))
		checkPeaks(t, r, c, false)
	}
	checkPeaks(t, r, example(), false)
}

// truth is a true curve: its kind, a peak, and how its error falls off on both sides of it.
type truth struct {
	c           api.Curve
	peak, top   int
	left, right [2]int // by so many thousandths each so many flows
}

func (k truth) at(flow int) int {
	switch {
	case flow < k.c.Start:
		return -1000
	case flow < k.peak:
		return max(-1000, k.top-(k.peak-flow)/k.left[1]*k.left[0])
	}
	return max(-1000, k.top-(flow-k.peak)/k.right[1]*k.right[0])
}

// anyTruth returns a true curve with points that contain it.
func anyTruth(r *rand.Rand) truth {
	c := api.Curve{Start: pick(r, 0, 10, r.Intn(1000)), Steep: pick(r, 0, 1, 1, 2, 7, 300)}
	k := truth{c: c, peak: c.Start + r.Intn(pick(r, 100, 3000, api.MaxFlow-c.Start+1)), top: r.Intn(2001) - 1000}
	k.left = [2]int{r.Intn(c.Steep + 1), pick(r, 1, 1, 5, 100)}
	k.right = [2]int{r.Intn(c.Steep + 1), pick(r, 1, 1, 5, 100)}
	var flows []int
	for range r.Intn(api.MaxPoints) {
		flows = append(flows, min(c.Start+r.Intn(pick(r, 100, 5000, api.MaxFlow)), api.MaxFlow))
	}
	slices.Sort(flows)
	wide := pick(r, 0, 2, 50)
	for _, flow := range slices.Compact(flows) {
		e := k.at(flow)
		k.c.Points = append(k.c.Points, point(flow, max(e-r.Intn(wide+1), -1000), min(e+r.Intn(wide+1), 1000)))
	}
	return k
}

func contains(s api.Span, n int) bool { return s.Lo <= n && n <= s.Hi }

func inside(narrow, wide api.Span) bool { return wide.Lo <= narrow.Lo && narrow.Hi <= wide.Hi }

// P3.5, P3 and P4: whatever the true curve is, what is returned contains what is true.
func TestTrueCurve(t *testing.T) {
	r := rand.New(rand.NewSource(4))
	for range 2000 {
		k := anyTruth(r)
		for range 5 {
			flow := anyFlow(r, k.c)
			if got, e := curve.At(k.c, flow); e != api.OK || !contains(got, k.at(flow)) {
				t.Fatalf("%v: At %d returns %v, %d, not %d", k, flow, got, e, k.at(flow))
			}
		}
		for _, p := range k.c.Points {
			if got, e := curve.At(k.c, p.Flow); e != api.OK || !inside(got, p.Error) {
				t.Fatalf("%v: At the point %v returns %v, %d", k, p, got, e)
			}
		}
		if got, e := curve.Peak(k.c); e != api.OK || !contains(got, k.peak) {
			t.Fatalf("%v: Peak returns %v, %d", k, got, e)
		}
		draws := anyDraws(r, k.c)
		sum := 0
		for _, d := range draws {
			sum += d.Litres * (1000 + k.at(d.Flow))
		}
		if got, e := curve.Shown(k.c, draws); e != api.OK || !inside(litres(span(sum, sum)), got) {
			t.Fatalf("%v: Shown of %v returns %v, %d, not %d thousandths", k, draws, got, e, sum)
		}
		b := band(min(k.c.Start+r.Intn(100), api.MaxFlow), min(k.c.Start+100+r.Intn(3000), api.MaxFlow), r.Intn(1001))
		kept := !slices.ContainsFunc([]int{b.From, b.To, min(max(k.peak, b.From), b.To)}, func(flow int) bool { return !contains(span(-b.Most, b.Most), k.at(flow)) })
		if got, e := curve.Keeps(k.c, []api.Band{b}); e != api.OK || kept && got == api.NoCurve || !kept && got == api.AllCurves {
			t.Fatalf("%v: Keeps of %v returns %d, %d, but it is %v", k, b, got, e, kept)
		}
	}
}

// withPoint returns a kind with one point more, or with less of the error of a point; ok is false if it has no room, or if no error is left.
func withPoint(c api.Curve, p api.Point) (out api.Curve, ok bool) {
	out = c
	out.Points = slices.Clone(c.Points)
	for i, q := range out.Points {
		if q.Flow == p.Flow {
			both := span(max(p.Error.Lo, q.Error.Lo), min(p.Error.Hi, q.Error.Hi))
			out.Points[i].Error = both
			return out, both.Lo <= both.Hi
		}
	}
	out.Points = append(out.Points, p)
	slices.SortFunc(out.Points, func(p, q api.Point) int { return p.Flow - q.Flow })
	return out, len(out.Points) <= api.MaxPoints
}

// P3.5: at both ends of a span there is a curve, and none beyond them.
func TestEndsAreReached(t *testing.T) {
	r := rand.New(rand.NewSource(5))
	for range 2000 {
		k := anyTruth(r)
		flow := max(anyFlow(r, k.c), k.c.Start)
		s, _ := curve.At(k.c, flow)
		for _, end := range []int{s.Lo, s.Hi} {
			if c, ok := withPoint(k.c, point(flow, end, end)); ok {
				checkAt(t, "just the end", c, flow, span(end, end), api.OK)
			}
		}
		if c, ok := withPoint(k.c, point(flow, -1000, s.Lo-1)); ok && s.Lo > -1000 {
			checkAt(t, "less than the least", c, flow, api.Span{}, api.ErrState)
		}
		if c, ok := withPoint(k.c, point(flow, s.Hi+1, 1000)); ok && s.Hi < 1000 {
			checkAt(t, "greater than the greatest", c, flow, api.Span{}, api.ErrState)
		}
	}
}

// isWithin checks that no span of a kind is wider than that of another one.
func isWithin(t *testing.T, r *rand.Rand, narrow, wide api.Curve) {
	t.Helper()
	if _, e := curve.Peak(narrow); e == api.ErrState {
		return
	}
	flow, draws := anyFlow(r, wide), anyDraws(r, wide)
	at, e1 := curve.At(narrow, flow)
	at2, e2 := curve.At(wide, flow)
	shown, e3 := curve.Shown(narrow, draws)
	shown2, e4 := curve.Shown(wide, draws)
	peak, e5 := curve.Peak(narrow)
	peak2, e6 := curve.Peak(wide)
	if slices.ContainsFunc([]api.Errno{e1, e2, e3, e4, e5, e6}, func(e api.Errno) bool { return e != api.OK }) {
		t.Fatalf("%v within %v: errors %d %d %d %d %d %d", narrow, wide, e1, e2, e3, e4, e5, e6)
	}
	if !inside(at, at2) || !inside(shown, shown2) || !inside(peak, peak2) {
		t.Fatalf("%v within %v: At %d %v, %v; Shown of %v %v, %v; Peak %v, %v", narrow, wide, flow, at, at2, draws, shown, shown2, peak, peak2)
	}
}

// P3.6: with one point more, or a lesser Steep, no span is wider.
func TestMoreIsKnown(t *testing.T) {
	r := rand.New(rand.NewSource(6))
	for range 2000 {
		k := anyTruth(r)
		flow := max(anyFlow(r, k.c), k.c.Start)
		lo := max(k.at(flow)-r.Intn(30), -1000)
		if c, ok := withPoint(k.c, point(flow, lo, min(k.at(flow)+r.Intn(30), 1000))); ok {
			isWithin(t, r, c, k.c)
		}
		c := k.c
		c.Steep = r.Intn(c.Steep + 1)
		isWithin(t, r, c, k.c)
		c.Steep = max(0, k.c.Steep-1)
		isWithin(t, r, c, k.c)
	}
}

// P3.6: what is shown of some draws is within what is shown of each; of one alone it is the span at its flow.
func TestDrawsTogether(t *testing.T) {
	r := rand.New(rand.NewSource(7))
	for range 2000 {
		c := anyTruth(r).c
		draws := anyDraws(r, c)
		together, e := curve.Shown(c, draws)
		var sum api.Span
		for _, d := range draws {
			alone, _ := curve.Shown(c, []api.Draw{d})
			at, _ := curve.At(c, d.Flow)
			checkShown(t, "one draw", c, []api.Draw{d}, litres(span(d.Litres*(1000+at.Lo), d.Litres*(1000+at.Hi))), api.OK)
			sum = span(sum.Lo+alone.Lo, sum.Hi+alone.Hi)
		}
		if e != api.OK || !inside(together, sum) {
			t.Fatalf("%v: Shown of %v returns %v, %d, each of them %v", c, draws, together, e, sum)
		}
	}
}

// P3.6: bands that are narrower, or have a greater Most, are kept at least as well; and each alone at least as well as all together.
func TestEasierBands(t *testing.T) {
	r := rand.New(rand.NewSource(8))
	for range 3000 {
		c := anyCurve(r, pick(r, 0, api.MaxFlow-30, api.MaxFlow-30), r.Intn(6), pick(r, 0, 1, 5), pick(r, 2, 40))
		if _, e := curve.Peak(c); e != api.OK {
			continue
		}
		bands := anyBandsOfAt(r, c)
		kept, e := curve.Keeps(c, bands)
		if e != api.OK {
			t.Fatal(c, bands, e)
		}
		easier := slices.Clone(bands)
		for i, b := range easier {
			from := b.From + r.Intn(b.To-b.From+1)
			easier[i] = band(from, from+r.Intn(b.To-from+1), b.Most+r.Intn(2)*r.Intn(1001-b.Most))
			if alone, _ := curve.Keeps(c, bands[i:i+1]); alone < kept {
				t.Fatalf("%v: Keeps of %v returns %d, of the band %d alone %d", c, bands, kept, i, alone)
			}
		}
		if got, _ := curve.Keeps(c, easier); got < kept {
			t.Fatalf("%v: Keeps of %v returns %d, of %v %d", c, bands, kept, easier, got)
		}
	}
}

// anyBandsOfAt returns bands whose Most is near the errors at some flow.
func anyBandsOfAt(r *rand.Rand, c api.Curve) []api.Band {
	var l []api.Band
	for range r.Intn(api.MaxBands + 1) {
		from, to := anyFlow(r, c), anyFlow(r, c)
		s, _ := curve.At(c, anyFlow(r, c))
		most := pick(r, s.Lo, -s.Lo, s.Hi, -s.Hi, max(-s.Lo, s.Hi), r.Intn(1001)) + r.Intn(3) - 1
		l = append(l, band(min(from, to), max(from, to), min(max(most, 0), 1000)))
	}
	return l
}

// P3.7: from Start on the ends of the span differ by at most Steep from one flow to the next.
func TestNextFlow(t *testing.T) {
	r := rand.New(rand.NewSource(9))
	for range 3000 {
		c := anyTruth(r).c
		flow := min(max(anyFlow(r, c), c.Start), api.MaxFlow-1)
		a, e := curve.At(c, flow)
		b, e2 := curve.At(c, flow+1)
		if e != api.OK || e2 != api.OK || distance(a.Lo, b.Lo) > c.Steep || distance(a.Hi, b.Hi) > c.Steep {
			t.Fatalf("%v: At %d returns %v, %d, and at the next flow %v, %d", c, flow, a, e, b, e2)
		}
	}
}

// P3.7 and P11: the order of bands makes no difference, nor that of draws, nor does a band that is there twice.
func TestOrder(t *testing.T) {
	r := rand.New(rand.NewSource(10))
	for range 1000 {
		c := anyTruth(r).c
		draws, bands := anyDraws(r, c), anyBandsOfAt(r, c)
		shown, e := curve.Shown(c, draws)
		kept, e2 := curve.Keeps(c, bands)
		r.Shuffle(len(draws), func(i, j int) { draws[i], draws[j] = draws[j], draws[i] })
		r.Shuffle(len(bands), func(i, j int) { bands[i], bands[j] = bands[j], bands[i] })
		checkShown(t, "in another order", c, draws, shown, e)
		checkKeeps(t, "in another order", c, bands, kept, e2)
		if len(bands) > 0 && len(bands) < api.MaxBands {
			checkKeeps(t, "one band twice", c, append(bands, bands[0]), kept, e2)
		}
		if len(draws) > 0 && len(draws) < api.MaxDraws {
			d := draws[0]
			whole := append(slices.Clone(draws[1:]), draw(d.Flow, d.Litres/2), draw(d.Flow, d.Litres-d.Litres/2))
			checkShown(t, "a draw in two parts", c, whole, shown, e)
		}
	}
}

// R3 and R4: nil and empty lists are the same, and no argument is changed.
func TestArgumentsAreOnlyRead(t *testing.T) {
	c := example()
	points := append(make([]api.Point, 0, 64), c.Points...)
	c.Points = points
	draws := append(make([]api.Draw, 0, 64), draw(300, 5), draw(100, 1000), draw(5, 7))
	bands := append(make([]api.Band, 0, 64), band(100, 1000, 50), band(30, 60, 45))
	pointsBefore, drawsBefore, bandsBefore := slices.Clone(points[:64]), slices.Clone(draws[:64]), slices.Clone(bands[:64])
	curve.At(c, 60)
	curve.Shown(c, draws)
	curve.Peak(c)
	curve.Keeps(c, bands)
	if !slices.Equal(points[:64], pointsBefore) || !slices.Equal(draws[:64], drawsBefore) || !slices.Equal(bands[:64], bandsBefore) {
		t.Error("an argument was changed", points[:64], draws[:64], bands[:64])
	}
	checkPeak(t, "an empty list of points", api.Curve{Start: 5, Steep: 1, Points: []api.Point{}}, span(5, api.MaxFlow), api.OK)
	checkPeak(t, "the zero value", api.Curve{}, span(0, api.MaxFlow), api.OK)
}
