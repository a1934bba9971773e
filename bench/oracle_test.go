package bench_test

import (
	"math/big"
	"math/rand"
	"slices"

	"meterworks/api"
)

// The functions of this file follow the words of the document as plainly as they can, in fractions of any size.

func whole(n int) *big.Rat { return new(big.Rat).SetInt64(int64(n)) }

func sum(l ...*big.Rat) *big.Rat {
	out := new(big.Rat)
	for _, x := range l {
		out.Add(out, x)
	}
	return out
}

func less(x, y *big.Rat) *big.Rat { return new(big.Rat).Sub(x, y) }

func times(x, y *big.Rat) *big.Rat { return new(big.Rat).Mul(x, y) }

func over(x, y *big.Rat) *big.Rat { return new(big.Rat).Quo(x, y) }

// floor rounds down: big.Int's Div does so for what is divided by a number above 0.
func floor(x *big.Rat) int { return int(new(big.Int).Div(x.Num(), x.Denom()).Int64()) }

func ceil(x *big.Rat) int { return -floor(new(big.Rat).Neg(x)) }

// extent is the least and the greatest of some numbers.
type extent struct{ least, greatest *big.Rat }

func (s *extent) add(x *big.Rat) {
	if s.least == nil || x.Cmp(s.least) < 0 {
		s.least = x
	}
	if s.greatest == nil || x.Cmp(s.greatest) > 0 {
		s.greatest = x
	}
}

func (s *extent) span() api.Span { return span(floor(s.least), ceil(s.greatest)) }

func contains(s api.Span, x *big.Rat) bool { return whole(s.Lo).Cmp(x) <= 0 && whole(s.Hi).Cmp(x) >= 0 }

// valueAt is that of a straight line between the marks on both sides of a number.
func valueAt(table []api.Mark, number *big.Rat) *big.Rat {
	for i := 1; i < len(table); i++ {
		a, b := table[i-1], table[i]
		if number.Cmp(whole(b.At)) <= 0 {
			part := over(less(number, whole(a.At)), whole(b.At-a.At))
			return sum(whole(a.Value), times(part, whole(b.Value-a.Value)))
		}
	}
	return nil
}

// truth is what was true of a catch: all that is known between bounds only, and what is added at first and at last.
type truth struct{ begin, end, first, last, warm, buoy, air *big.Rat }

func (t truth) water(b api.Bench) *big.Rat {
	if b.Weighs {
		net := less(sum(t.end, t.last), sum(t.begin, t.first))
		return over(times(net, sum(whole(1_000_000), t.buoy)), valueAt(b.Table, t.warm))
	}
	return less(sum(valueAt(b.Table, t.end), t.last), sum(valueAt(b.Table, t.begin), t.first))
}

// cornersOf returns both ends of a span, and the marks between them.
func cornersOf(s api.Span, table []api.Mark) []*big.Rat {
	out := []*big.Rat{whole(s.Lo), whole(s.Hi)}
	for _, m := range table {
		if m.At > s.Lo && m.At < s.Hi {
			out = append(out, whole(m.At))
		}
	}
	return out
}

// cornerTruths hands over each truth in which all is at an end, or at a mark. As what goes through either only rises or only falls with
// each number that a truth gives, as long as it passes no mark, it is least in one of them, and greatest in another one.
func cornerTruths(b api.Bench, x api.Catch, do func(t truth)) {
	heights, warms := b.Table, []*big.Rat{nil}
	if b.Weighs {
		heights, warms = nil, cornersOf(x.Warm, b.Table)
	}
	off := cornersOf(span(-b.Off, b.Off), nil)
	for _, begin := range cornersOf(x.Begin, heights) {
		for _, end := range cornersOf(x.End, heights) {
			for _, warm := range warms {
				for i := range 16 {
					do(truth{begin, end, off[i%2], off[i/2%2], warm, whole([2]int{b.Buoy.Lo, b.Buoy.Hi}[i/4%2]), whole([2]int{b.Air.Lo, b.Air.Hi}[i/8])})
				}
			}
		}
	}
}

// waterOf returns the span of what goes through the meters, and whether the water is at least 1 in each truth.
func waterOf(b api.Bench, x api.Catch) (s api.Span, enough bool) {
	var water, through extent
	cornerTruths(b, x, func(t truth) {
		w := t.water(b)
		water.add(w)
		through.add(sum(w, t.air))
	})
	return through.span(), water.least.Cmp(whole(1)) >= 0
}

func errorOf(shown, through *big.Rat) *big.Rat {
	return over(times(less(shown, through), whole(10000)), through)
}

// errorsOf returns the span of a meter's error, of which the same can be said as of cornerTruths.
func errorsOf(through, shown api.Span) api.Span {
	var s extent
	for _, m := range cornersOf(shown, nil) {
		for _, w := range cornersOf(through, nil) {
			s.add(errorOf(m, w))
		}
	}
	return s.span()
}

// passedOf tries each number that the meter can have shown. Of each of them, the error is nearest to 0 for what went through
// that is nearest to it, and farthest from it at an end.
func passedOf(through, shown api.Span, most int) int {
	each, some := true, false
	for m := shown.Lo; m <= shown.Hi; m++ {
		near := min(max(m, through.Lo), through.Hi)
		if new(big.Rat).Abs(errorOf(whole(m), whole(near))).Cmp(whole(most)) <= 0 {
			some = true
		}
		for _, w := range cornersOf(through, nil) {
			if new(big.Rat).Abs(errorOf(whole(m), w)).Cmp(whole(most)) > 0 {
				each = false
			}
		}
	}
	switch {
	case each:
		return api.Yes
	case some:
		return api.Perhaps
	}
	return api.No
}

func gapOf(through, i, k api.Span) api.Span {
	var s extent
	for _, w := range cornersOf(through, nil) {
		for _, a := range cornersOf(i, nil) {
			for _, b := range cornersOf(k, nil) {
				s.add(less(errorOf(a, w), errorOf(b, w)))
			}
		}
	}
	return s.span()
}

func flowOf(through, time api.Span) api.Span {
	var s extent
	for _, w := range cornersOf(through, nil) {
		for _, d := range cornersOf(time, nil) {
			s.add(over(times(w, whole(3600)), d))
		}
	}
	return s.span()
}

func pick[T any](r *rand.Rand, l ...T) T { return l[r.Intn(len(l))] }

// anySpanIn returns a span of numbers from least to most, often one of few numbers.
func anySpanIn(r *rand.Rand, least, most int) api.Span {
	lo := least + r.Intn(most-least+1)
	hi := min(lo+pick(r, 0, 0, 1, 2, r.Intn(20), r.Intn(most-least+1)), most)
	return span(lo, hi)
}

// anyTable returns a table with values from least to most.
func anyTable(r *rand.Rand, highest, least, most int, rises bool) []api.Mark {
	var ats, values []int
	for range pick(r, 2, 3, 4, api.MaxTable) {
		ats = append(ats, r.Intn(highest+1))
		values = append(values, least+r.Intn(most-least+1))
	}
	ats = append(ats, 0, highest)
	slices.Sort(ats)
	ats = slices.Compact(ats)
	if rises {
		slices.Sort(values)
	}
	for len(values) < len(ats) {
		values = append(values, values[len(values)-1])
	}
	var out []api.Mark
	for i := range min(len(ats), api.MaxTable) {
		out = append(out, api.Mark{At: ats[i], Value: values[i]})
	}
	if r.Intn(3) == 0 && len(out) > 2 {
		out = out[1:]
	}
	return out
}

// anyBench returns a valid bench, and a catch that is right for it, most of them with enough water.
func anyBench(r *rand.Rand) (api.Bench, api.Catch) {
	size := pick(r, 30, 1000, api.MaxValue)
	b := api.Bench{
		Weighs: r.Intn(2) == 0,
		Off:    pick(r, 0, 0, 1, r.Intn(size/20+1), r.Intn(size/2)),
		Buoy:   anySpanIn(r, 0, pick(r, 1, 1200, api.MaxBuoy)),
		Air:    anySpanIn(r, 0, pick(r, 1, 5, size)),
	}
	highest := pick(r, 5, 40, api.MaxAt)
	if b.Weighs {
		b.Table = anyTable(r, highest, 1, pick(r, 5, 1_000_000, api.MaxValue), false)
		if r.Intn(2) == 0 {
			b.Table = anyTable(r, highest, 990_000, 1_000_000, false)
		}
		return b, api.Catch{Begin: anySpanIn(r, 0, size/3), End: anySpanIn(r, size/2, size), Warm: anySpanOf(r, b.Table, 0, 1)}
	}
	b.Table = anyTable(r, highest, 1, size, true)
	return b, api.Catch{Begin: anySpanOf(r, b.Table, 0, 3), End: anySpanOf(r, b.Table, 2, 3), Warm: span(r.Intn(5)-2, r.Intn(5)-2)}
}

// anySpanOf returns a span within the marks of a table, from a part of them on: 0 is the first one, and of the last one.
func anySpanOf(r *rand.Rand, table []api.Mark, part, of int) api.Span {
	first, last := table[0].At, table[len(table)-1].At
	return anySpanIn(r, first+(last-first)*part/max(of, 1), last)
}

// anyRow returns some meters, most of which showed about what went through.
func anyRow(r *rand.Rand, through api.Span) []api.Span {
	var row []api.Span
	for range r.Intn(api.MaxRow + 1) {
		lo := pick(r, r.Intn(100), r.Intn(api.MaxLitres), through.Lo-5+r.Intn(10), through.Hi-5+r.Intn(10), through.Lo+r.Intn(through.Hi-through.Lo+1))
		lo = min(max(lo, 0), api.MaxLitres)
		row = append(row, span(lo, min(lo+pick(r, 0, 1, 5, r.Intn(30)), api.MaxLitres)))
	}
	return row
}

// anyMost returns a most that is often just that by which some meter errs.
func anyMost(r *rand.Rand, through api.Span, row []api.Span) int {
	if len(row) == 0 || r.Intn(4) == 0 {
		return pick(r, 0, 1, r.Intn(api.MaxMiss+1), api.MaxMiss)
	}
	e := errorsOf(through, row[r.Intn(len(row))])
	return min(max(pick(r, e.Lo, -e.Lo, e.Hi, -e.Hi)+r.Intn(3)-1, 0), api.MaxMiss)
}
