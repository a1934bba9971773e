package bench_test

import (
	"math"
	"math/rand"
	"slices"
	"testing"

	"meterworks/api"
	"meterworks/bench"
)

func span(lo, hi int) api.Span { return api.Span{Lo: lo, Hi: hi} }

func one(n int) api.Span { return span(n, n) }

// marks returns a table: an At and a Value for each mark.
func marks(l ...int) []api.Mark {
	var out []api.Mark
	for i := 0; i < len(l); i += 2 {
		out = append(out, api.Mark{At: l[i], Value: l[i+1]})
	}
	return out
}

func exampleTank() api.Bench {
	return api.Bench{Table: marks(0, 1000, 100, 11000, 300, 35000), Off: 10, Air: span(0, 20)}
}

func exampleScale() api.Bench {
	return api.Bench{Weighs: true, Table: marks(100, 999700, 200, 998200), Off: 5, Buoy: span(1050, 1100)}
}

func tankCatch() api.Catch { return api.Catch{Begin: one(10), End: span(110, 111)} }

func scaleCatch() api.Catch {
	return api.Catch{Begin: one(500), End: one(10480), Warm: span(150, 160)}
}

func exampleRow() []api.Span { return []api.Span{span(10000, 10010), one(9800)} }

// plainScale is a scale on which a gram is a millilitre, and nothing is off.
func plainScale() api.Bench {
	return api.Bench{Weighs: true, Table: marks(0, 1_000_000, 100, 1_000_000)}
}

// grams is a catch of a plain scale, of which so many millilitres went through.
func grams(s api.Span) api.Catch { return api.Catch{End: s} }

func checkWater(t *testing.T, name string, b api.Bench, x api.Catch, want api.Span, e api.Errno) {
	t.Helper()
	if got, f := bench.Water(b, x); got != want || f != e {
		t.Error("Water", name, b, x, "is", got, f, "and not", want, e)
	}
}

func checkFlow(t *testing.T, name string, b api.Bench, x api.Catch, time, want api.Span, e api.Errno) {
	t.Helper()
	if got, f := bench.Flow(b, x, time); got != want || f != e {
		t.Error("Flow", name, b, x, time, "is", got, f, "and not", want, e)
	}
}

func checkErrors(t *testing.T, name string, b api.Bench, x api.Catch, row, want []api.Span, e api.Errno) {
	t.Helper()
	if got, f := bench.Errors(b, x, row); !slices.Equal(got, want) || f != e {
		t.Error("Errors", name, b, x, row, "is", got, f, "and not", want, e)
	}
}

func checkPassed(t *testing.T, name string, b api.Bench, x api.Catch, row []api.Span, most int, want []int, e api.Errno) {
	t.Helper()
	if got, f := bench.Passed(b, x, row, most); !slices.Equal(got, want) || f != e {
		t.Error("Passed", name, b, x, row, most, "is", got, f, "and not", want, e)
	}
}

func checkGap(t *testing.T, name string, b api.Bench, x api.Catch, row []api.Span, i, k int, want api.Span, e api.Errno) {
	t.Helper()
	if got, f := bench.Gap(b, x, row, i, k); got != want || f != e {
		t.Error("Gap", name, b, x, row, i, k, "is", got, f, "and not", want, e)
	}
}

// checkFirst checks that each function returns an error of a bench and a catch, though all that comes after them is wrong too.
func checkFirst(t *testing.T, name string, b api.Bench, x api.Catch, e api.Errno) {
	t.Helper()
	wrong := make([]api.Span, api.MaxRow+1)
	wrong[0] = one(-1)
	checkWater(t, name, b, x, api.Span{}, e)
	checkFlow(t, name, b, x, one(0), api.Span{}, e)
	checkErrors(t, name, b, x, wrong, nil, e)
	checkPassed(t, name, b, x, wrong, -1, nil, e)
	checkGap(t, name, b, x, wrong, -1, -1, api.Span{}, e)
}

// The examples of the chapter.
func TestExamples(t *testing.T) {
	tank, scale, x, row := exampleTank(), exampleScale(), tankCatch(), exampleRow()
	checkWater(t, "of the tank", tank, x, span(10180, 10360), api.OK)
	checkWater(t, "of the scale", scale, scaleCatch(), span(9990, 10014), api.OK)
	checkErrors(t, "of the tank's row", tank, x, row, []api.Span{span(-348, -166), span(-541, -373)}, api.OK)
	checkPassed(t, "with 200", tank, x, row, 200, []int{api.Perhaps, api.No}, api.OK)
	checkPassed(t, "with 600", tank, x, row, 600, []int{api.Yes, api.Yes}, api.OK)
	checkGap(t, "of the tank's row", tank, x, row, 0, 1, span(193, 207), api.OK)
	checkFlow(t, "of the tank", tank, x, one(60000), span(610, 622), api.OK)
}

// P4.1: heights at a mark, between two, at the first and the last one, at both sides of one, and spans of one height.
func TestWaterOfTank(t *testing.T) {
	b := api.Bench{Table: marks(10, 100, 20, 150, 40, 250, 50, 250, 53, 260)}
	for _, s := range []struct {
		name       string
		begin, end api.Span
		want       api.Span
	}{
		{"marks", one(10), one(20), span(50, 50)},
		{"the first and the last mark", one(10), one(53), span(160, 160)},
		{"between two marks", one(12), one(18), span(30, 30)},
		{"at both sides of a mark", one(15), one(22), span(35, 35)},
		{"a whole span", span(10, 20), span(40, 50), span(100, 150)},
		{"a fraction, rounded down and up", one(10), one(51), span(153, 154)},
		{"a fraction at first", one(51), one(53), span(6, 7)},
		{"two fractions, rounded once", one(51), one(52), span(3, 4)},
		{"fractions at both ends", one(10), span(51, 52), span(153, 157)},
		{"fractions at both ends, at first", span(51, 52), one(53), span(3, 7)},
		{"spans that meet nearly", span(18, 19), span(20, 21), span(5, 15)},
	} {
		checkWater(t, s.name, b, api.Catch{Begin: s.begin, End: s.end}, s.want, api.OK)
	}
	off := b
	off.Off, off.Air = 3, span(4, 6)
	checkWater(t, "each height is off", off, api.Catch{Begin: one(10), End: one(20)}, span(48, 62), api.OK)
	level := api.Bench{Table: marks(0, 7, 5, 7, 10, 8)}
	checkWater(t, "a part in which nothing rises", level, api.Catch{Begin: span(0, 5), End: one(10)}, span(1, 1), api.OK)
	wide := api.Bench{Table: marks(0, 1, 1, 2, api.MaxAt, api.MaxValue), Off: 5_000_000, Air: span(0, api.MaxValue)}
	checkFirst(t, "as much off as there is water", wide, api.Catch{Begin: one(0), End: one(api.MaxAt)}, api.ErrShort)
	wide.Off = 4_999_999
	checkWater(t, "all that there can be", wide, api.Catch{Begin: one(0), End: one(api.MaxAt)}, span(1, 29_999_997), api.OK)
	wide.Off = 0
	checkWater(t, "fractions of many parts", wide, api.Catch{Begin: one(3), End: one(9998)}, span(9_995_997, 19_995_998), api.OK)
}

// P4.1: warmths at a mark, between two, and spans in which the density is greatest, or least, between both ends.
func TestWaterOfScale(t *testing.T) {
	b := api.Bench{Weighs: true, Table: marks(0, 500_000, 10, 1_000_000, 20, 400_000, 30, 800_000)}
	for _, s := range []struct {
		name string
		warm api.Span
		want api.Span
	}{
		{"a mark", one(10), span(600, 600)},
		{"the first mark", one(0), span(1200, 1200)},
		{"the last mark", one(30), span(750, 750)},
		{"between two marks, rising", one(5), span(800, 800)},
		{"between two marks, falling", one(15), span(857, 858)},
		{"from mark to mark", span(0, 10), span(600, 1200)},
		{"within two marks", span(11, 12), span(638, 682)},
		{"greatest between the ends", span(5, 15), span(600, 858)},
		{"least between the ends", span(15, 25), span(857, 1500)},
		{"greatest and least between the ends", span(8, 21), span(600, 1500)},
		{"all of it", span(0, 30), span(600, 1500)},
	} {
		checkWater(t, s.name, b, api.Catch{Begin: one(50), End: one(650), Warm: s.warm}, s.want, api.OK)
	}
	checkWater(t, "weights of spans", b, api.Catch{Begin: span(50, 60), End: span(650, 670), Warm: one(10)}, span(590, 620), api.OK)
	b.Off = 2
	checkWater(t, "each weighing is off", b, api.Catch{Begin: span(50, 60), End: span(650, 670), Warm: one(10)}, span(586, 624), api.OK)
	b.Buoy = span(5000, 10000)
	checkWater(t, "the air bears some of it", b, api.Catch{Begin: span(50, 60), End: span(650, 670), Warm: one(10)}, span(588, 631), api.OK)
	b.Air = span(100, 200)
	checkWater(t, "air goes through", b, api.Catch{Begin: span(50, 60), End: span(650, 670), Warm: one(10)}, span(688, 831), api.OK)

	light := api.Bench{Weighs: true, Table: marks(0, 1, api.MaxAt, 2), Off: 4_999_999, Buoy: span(0, api.MaxBuoy), Air: span(0, api.MaxValue)}
	x := api.Catch{Begin: one(0), End: one(api.MaxValue), Warm: span(1, 9999)}
	checkWater(t, "all that there can be", light, x, span(1_000_050, 20_197_988_182_182), api.OK)
	heavy := api.Bench{Weighs: true, Table: marks(0, api.MaxValue, 1, api.MaxValue-1, api.MaxAt, api.MaxValue)}
	checkWater(t, "the heaviest of all", heavy, api.Catch{End: one(api.MaxValue), Warm: one(5000)}, span(1_000_000, 1_000_001), api.OK)
}

// ErrShort: exactly 1, a little less, less in some truths, and air, which is no water.
func TestShort(t *testing.T) {
	b := plainScale()
	checkWater(t, "exactly 1", b, grams(one(1)), one(1), api.OK)
	checkWater(t, "at least 1", b, grams(span(1, 5)), span(1, 5), api.OK)
	checkFirst(t, "none", b, grams(one(0)), api.ErrShort)
	checkFirst(t, "none in some truth", b, grams(span(0, 5)), api.ErrShort)
	checkFirst(t, "less than none", b, api.Catch{Begin: one(9), End: one(3)}, api.ErrShort)
	checkFirst(t, "less than none in some truth", b, api.Catch{Begin: span(2, 9), End: span(3, 20)}, api.ErrShort)
	heavy := b
	heavy.Table = marks(0, 1_000_000, 100, 1_000_001)
	checkWater(t, "the density of water", heavy, grams(one(1)), one(1), api.OK)
	heavyCatch := grams(one(1))
	heavyCatch.Warm = one(1)
	checkFirst(t, "a little less than 1", heavy, heavyCatch, api.ErrShort)
	heavyCatch.Warm = span(0, 1)
	checkFirst(t, "a little less than 1 in some truth", heavy, heavyCatch, api.ErrShort)
	heavy.Buoy = span(0, 10)
	checkFirst(t, "a little less than 1, if the air bears nothing", heavy, heavyCatch, api.ErrShort)
	heavy.Buoy = span(1, 10)
	checkWater(t, "the air bears enough", heavy, heavyCatch, span(1, 2), api.OK)
	off := b
	off.Off = 1
	checkWater(t, "two weighings are off", off, grams(one(3)), span(1, 5), api.OK)
	checkFirst(t, "two weighings are off", off, grams(one(2)), api.ErrShort)
	airy := b
	airy.Air = one(1000)
	checkFirst(t, "only air", airy, grams(one(0)), api.ErrShort)
	checkWater(t, "more air than water", airy, grams(one(1)), one(1001), api.OK)

	tank := api.Bench{Table: marks(0, 10, 3, 12, 5, 12, 7, 20)}
	checkWater(t, "a tank", tank, api.Catch{Begin: one(0), End: one(2)}, span(1, 2), api.OK)
	checkFirst(t, "a tank, less than 1", tank, api.Catch{Begin: one(0), End: one(1)}, api.ErrShort)
	checkFirst(t, "a tank, less than 1 in some truth", tank, api.Catch{Begin: span(0, 2), End: span(3, 7)}, api.ErrShort)
	checkWater(t, "a tank", tank, api.Catch{Begin: span(0, 1), End: span(3, 7)}, span(1, 10), api.OK)
	checkFirst(t, "a tank that does not rise", tank, api.Catch{Begin: one(3), End: one(5)}, api.ErrShort)
	checkFirst(t, "a tank that falls", tank, api.Catch{Begin: one(7), End: one(0)}, api.ErrShort)
	tank.Air = one(50)
	checkFirst(t, "a tank with air", tank, api.Catch{Begin: one(3), End: one(5)}, api.ErrShort)
}

// P4.2: a flow of both spans, rounded down and up.
func TestFlow(t *testing.T) {
	b := plainScale()
	checkFlow(t, "a litre in a second", b, grams(one(1000)), one(1000), one(3600), api.OK)
	checkFlow(t, "a span of the water", b, grams(span(1000, 2000)), one(1000), span(3600, 7200), api.OK)
	checkFlow(t, "a span of the time", b, grams(one(1000)), span(500, 2000), span(1800, 7200), api.OK)
	checkFlow(t, "both spans", b, grams(span(999, 1001)), span(7000, 7001), span(513, 515), api.OK)
	checkFlow(t, "rounded", b, grams(one(1000)), one(7000), span(514, 515), api.OK)
	checkFlow(t, "the longest time", b, grams(one(1)), one(api.MaxTime), span(0, 1), api.OK)
	checkFlow(t, "the shortest time", b, grams(one(1)), one(1), one(3600), api.OK)
	checkFlow(t, "all times", b, grams(one(api.MaxValue)), span(1, api.MaxTime), span(360, 36_000_000_000), api.OK)
	airy := b
	airy.Air = span(0, 1000)
	checkFlow(t, "air flows too", airy, grams(one(1000)), one(1000), span(3600, 7200), api.OK)
	tenth := b
	tenth.Table = marks(0, 1_001_000, 1, 1_001_000)
	checkFlow(t, "of the rounded water", tenth, grams(one(1000)), one(1), span(999*3600, 1000*3600), api.OK)
	for _, time := range []api.Span{one(0), one(-1), span(0, 5), span(5, 4), span(1, api.MaxTime+1), one(api.MaxTime + 1), span(math.MinInt, math.MaxInt), span(math.MaxInt, math.MinInt)} {
		checkFlow(t, "no time", b, grams(one(1000)), time, api.Span{}, api.ErrRange)
	}
}

// P4.3: errors above and below 0, rounded down and up, and as they are without rounding.
func TestErrors(t *testing.T) {
	b := plainScale()
	for _, s := range []struct {
		water, shown, want api.Span
	}{
		{one(10000), one(10000), one(0)}, {one(10000), one(10001), one(1)}, {one(10000), one(9999), one(-1)}, {one(10000), one(0), one(-10000)}, {one(10000), one(20000), one(10000)},
		{one(20000), one(20001), span(0, 1)}, {one(20000), one(19999), span(-1, 0)}, {one(30000), one(30004), span(1, 2)}, {one(30000), one(29996), span(-2, -1)},
		{one(10000), span(9990, 10020), span(-10, 20)}, {span(9900, 10100), one(10000), span(-100, 102)}, {span(9000, 9900), span(9990, 10000), span(90, 1112)}, {span(12000, 13000), span(9990, 10000), span(-2316, -1666)},
		{span(5, 8), one(0), one(-10000)}, {span(3, 7), span(0, 20), span(-10000, 56667)}, {one(1), one(api.MaxLitres), one(api.MaxLitres*10000 - 10000)}, {one(api.MaxValue), span(0, api.MaxLitres), span(-10000, 1_063_742)},
	} {
		checkErrors(t, "one meter", b, grams(s.water), []api.Span{s.shown}, []api.Span{s.want}, api.OK)
	}
	airy := b
	airy.Air = span(0, 100)
	checkErrors(t, "air went through too", airy, grams(one(10000)), []api.Span{one(10000)}, []api.Span{span(-100, 0)}, api.OK)
	tenth := b
	tenth.Table = marks(0, 1_001_000, 1, 1_001_000)
	checkErrors(t, "of the rounded water", tenth, grams(one(1000)), []api.Span{one(1000)}, []api.Span{span(0, 11)}, api.OK)
	checkErrors(t, "no meters", b, grams(one(1)), nil, nil, api.OK)
	checkErrors(t, "an empty row", b, grams(one(1)), []api.Span{}, nil, api.OK)
	checkErrors(t, "the same meter twice, and another one", b, grams(one(100)), []api.Span{one(101), one(101), one(99)}, []api.Span{one(100), one(100), one(-100)}, api.OK)
	checkErrors(t, "the longest row", b, grams(one(100)), slices.Repeat([]api.Span{one(101)}, api.MaxRow), slices.Repeat([]api.Span{one(100)}, api.MaxRow), api.OK)
}

// P4.4: a meter that passes in each truth, in some, and in none, at the limit and next to it, where rounding would hide it.
func TestPassed(t *testing.T) {
	b := plainScale()
	for _, s := range []struct {
		water, shown api.Span
		most, want   int
	}{
		{one(100), one(101), 100, api.Yes}, {one(100), one(101), 99, api.No}, {one(100), one(99), 100, api.Yes}, {one(100), one(99), 99, api.No},
		{one(100), one(100), 0, api.Yes}, {one(100), one(101), 0, api.No}, {one(100), one(99), 0, api.No},
		{one(20001), one(20003), 0, api.No}, {one(20001), one(20003), 1, api.Yes}, {one(19999), one(20001), 1, api.No}, {one(19999), one(20001), 2, api.Yes},
		{one(20001), one(19999), 0, api.No}, {one(20001), one(19999), 1, api.Yes}, {one(19999), one(19997), 1, api.No}, {one(19999), one(19997), 2, api.Yes},
		{one(100), span(99, 101), 100, api.Yes}, {one(100), span(99, 101), 99, api.Perhaps}, {one(100), span(98, 101), 100, api.Perhaps}, {one(100), span(99, 102), 100, api.Perhaps},
		{one(100), span(101, 102), 100, api.Perhaps}, {one(100), span(101, 102), 99, api.No}, {one(100), span(98, 99), 100, api.Perhaps}, {one(100), span(98, 99), 99, api.No},
		{one(100), span(0, 1000), 0, api.Perhaps}, {one(3), span(2, 4), 1, api.Perhaps}, {span(3, 4), span(0, 3), 0, api.Perhaps}, {span(3, 4), span(4, 9), 0, api.Perhaps}, {span(3, 4), span(5, 9), 0, api.No}, {span(3, 4), span(0, 2), 0, api.No},
		{span(100, 200), one(100), 5000, api.Yes}, {span(100, 200), one(100), 4999, api.Perhaps}, {span(100, 200), one(200), 9999, api.Perhaps}, {span(100, 200), one(200), 10000, api.Yes}, {span(100, 200), one(99), 99, api.No}, {span(100, 200), one(99), 100, api.Perhaps}, {span(100, 200), one(202), 100, api.Perhaps}, {span(100, 200), one(202), 99, api.No},
		{one(100), one(0), 10000, api.Yes}, {one(100), one(0), 9999, api.No}, {one(100), one(200), 10000, api.Yes}, {one(100), one(201), 10000, api.No}, {one(1), one(api.MaxLitres), 10000, api.No},
	} {
		checkPassed(t, "one meter", b, grams(s.water), []api.Span{s.shown}, s.most, []int{s.want}, api.OK)
	}
	checkPassed(t, "no meters", b, grams(one(1)), nil, 0, nil, api.OK)
	checkPassed(t, "an empty row", b, grams(one(1)), []api.Span{}, 0, nil, api.OK)
	checkPassed(t, "all three", b, grams(one(100)), []api.Span{one(102), span(101, 102), one(101)}, 100, []int{api.No, api.Perhaps, api.Yes}, api.OK)
	checkPassed(t, "the longest row", b, grams(one(100)), slices.Repeat([]api.Span{one(101)}, api.MaxRow), 100, slices.Repeat([]int{api.Yes}, api.MaxRow), api.OK)
	for _, most := range []int{-1, api.MaxMiss + 1, math.MinInt, math.MaxInt} {
		checkPassed(t, "no limit", b, grams(one(100)), []api.Span{one(101)}, most, nil, api.ErrRange)
		checkPassed(t, "no limit and no meters", b, grams(one(100)), nil, most, nil, api.ErrRange)
	}
}

// P4.5: gaps above 0, below 0 and around it, in both orders, rounded down and up.
func TestGap(t *testing.T) {
	b := plainScale()
	for _, s := range []struct {
		water, i, k, want api.Span
	}{
		{one(10000), one(7), one(7), one(0)}, {one(10000), one(9), one(7), one(2)}, {one(20000), one(10), one(7), span(1, 2)}, {span(10000, 30000), one(7), one(7), one(0)},
		{one(10000), span(8, 9), one(7), span(1, 2)}, {one(10000), span(8, 9), span(5, 7), span(1, 4)}, {one(10000), span(6, 9), span(5, 7), span(-1, 4)}, {one(30000), span(6, 9), span(5, 7), span(-1, 2)},
		{span(1000, 2000), span(8, 9), span(5, 7), span(5, 40)}, {span(1000, 2000), span(6, 9), span(5, 7), span(-10, 40)}, {span(1000, 3000), one(9), one(8), span(3, 10)}, {span(1000, 3000), span(8, 9), span(8, 9), span(-10, 10)},
		{span(3, 5), one(api.MaxLitres), one(0), span(2_147_483_648_000, 3_579_139_413_334)}, {one(1), one(api.MaxLitres), one(0), one(10_000 * api.MaxLitres)},
	} {
		row := []api.Span{one(5), s.i, one(3), s.k}
		checkGap(t, "of two", b, grams(s.water), row, 1, 3, s.want, api.OK)
		checkGap(t, "the other way round", b, grams(s.water), row, 3, 1, span(-s.want.Hi, -s.want.Lo), api.OK)
	}
	checkGap(t, "the other way round", exampleTank(), tankCatch(), exampleRow(), 1, 0, span(-207, -193), api.OK)
	airy := b
	airy.Air = span(0, 100)
	checkGap(t, "air went through both", airy, grams(one(100)), []api.Span{one(101), one(100)}, 0, 1, span(50, 100), api.OK)
	row := slices.Repeat([]api.Span{one(100)}, api.MaxRow)
	row[15] = one(101)
	checkGap(t, "the longest row", b, grams(one(100)), row, 15, 0, one(100), api.OK)
	for _, s := range [][2]int{{0, 0}, {1, 1}, {-1, 0}, {0, -1}, {-1, -1}, {2, 0}, {0, 2}, {2, 2}, {math.MinInt, 0}, {0, math.MaxInt}} {
		checkGap(t, "not two of the row", b, grams(one(100)), []api.Span{one(101), one(99)}, s[0], s[1], api.Span{}, api.ErrRange)
	}
	checkGap(t, "an empty row", b, grams(one(100)), nil, 0, 1, api.Span{}, api.ErrRange)
	checkGap(t, "one meter", b, grams(one(100)), []api.Span{one(101)}, 0, 1, api.Span{}, api.ErrRange)
}

// P4.3 to P4.5: rows that are too long, or wrong, before all that comes after them.
func TestWrongRows(t *testing.T) {
	b, x := plainScale(), grams(one(100))
	long := slices.Repeat([]api.Span{one(-1)}, api.MaxRow+1)
	checkErrors(t, "too long", b, x, long, nil, api.ErrLong)
	checkPassed(t, "too long", b, x, long, -1, nil, api.ErrLong)
	checkGap(t, "too long", b, x, long, 0, 0, api.Span{}, api.ErrLong)
	long = make([]api.Span, api.MaxRow+1)
	checkErrors(t, "too long", b, x, long, nil, api.ErrLong)
	checkPassed(t, "too long", b, x, long, 5, nil, api.ErrLong)
	checkGap(t, "too long", b, x, long, 0, 1, api.Span{}, api.ErrLong)
	for _, wrong := range []api.Span{one(-1), span(-1, 5), span(5, 4), span(0, api.MaxLitres+1), one(api.MaxLitres + 1), span(math.MinInt, math.MaxInt)} {
		for i := range 3 {
			row := []api.Span{one(0), one(5), one(api.MaxLitres)}
			row[i] = wrong
			checkErrors(t, "a wrong one", b, x, row, nil, api.ErrRange)
			checkPassed(t, "a wrong one", b, x, row, 5, nil, api.ErrRange)
			checkGap(t, "a wrong one", b, x, row, 0, 2, api.Span{}, api.ErrRange)
		}
	}
}

// longTable returns a table of so many marks that rises by steps of 1.
func longTable(n int) []api.Mark {
	var out []api.Mark
	for i := range n {
		out = append(out, api.Mark{At: i, Value: 1_000_000 + i})
	}
	return out
}

// ErrArg comes first: tables, spans and numbers that are not valid, of both kinds.
func TestWrongBenches(t *testing.T) {
	wrongCatch := api.Catch{Begin: one(-1), End: one(-1), Warm: one(-1)}
	wrong := map[string]func(b *api.Bench){
		"no table":                func(b *api.Bench) { b.Table = nil },
		"an empty table":          func(b *api.Bench) { b.Table = []api.Mark{} },
		"one mark":                func(b *api.Bench) { b.Table = marks(5, 5) },
		"too many marks":          func(b *api.Bench) { b.Table = longTable(api.MaxTable + 1) },
		"marks at one place":      func(b *api.Bench) { b.Table = marks(5, 5, 5, 6) },
		"marks that fall back":    func(b *api.Bench) { b.Table = marks(0, 5, 9, 6, 8, 7) },
		"a mark below 0":          func(b *api.Bench) { b.Table = marks(-1, 5, 9, 6) },
		"a mark that is too high": func(b *api.Bench) { b.Table = marks(0, 5, api.MaxAt+1, 6) },
		"a value of 0":            func(b *api.Bench) { b.Table = marks(0, 0, 9, 6) },
		"a value below 0":         func(b *api.Bench) { b.Table = marks(0, -5, 9, 6) },
		"too much of a value":     func(b *api.Bench) { b.Table = marks(0, 5, 9, api.MaxValue+1) },
		"off below 0":             func(b *api.Bench) { b.Off = -1 },
		"too much off":            func(b *api.Bench) { b.Off = api.MaxValue + 1 },
		"buoy is no span":         func(b *api.Bench) { b.Buoy = span(2, 1) },
		"buoy below 0":            func(b *api.Bench) { b.Buoy = span(-1, 1) },
		"too much buoy":           func(b *api.Bench) { b.Buoy = span(1, api.MaxBuoy+1) },
		"air is no span":          func(b *api.Bench) { b.Air = span(2, 1) },
		"air below 0":             func(b *api.Bench) { b.Air = span(-1, 1) },
		"too much air":            func(b *api.Bench) { b.Air = span(1, api.MaxValue+1) },
		"numbers far off": func(b *api.Bench) {
			b.Off, b.Buoy, b.Air = math.MinInt, span(math.MinInt, math.MaxInt), one(math.MaxInt)
		},
	}
	for name, change := range wrong {
		tank, scale := exampleTank(), exampleScale()
		change(&tank)
		change(&scale)
		checkFirst(t, name, tank, wrongCatch, api.ErrArg)
		checkFirst(t, name, scale, wrongCatch, api.ErrArg)
		checkFirst(t, name, tank, tankCatch(), api.ErrArg)
		checkFirst(t, name, scale, scaleCatch(), api.ErrArg)
	}
	falls := marks(0, 1_000_000, 50, 999_999, 100, 1_000_000)
	checkFirst(t, "a tank that holds less, filled higher", api.Bench{Table: falls}, wrongCatch, api.ErrArg)
	checkWater(t, "the same table of a scale", api.Bench{Weighs: true, Table: falls}, grams(one(5)), one(5), api.OK)
	falls = marks(0, 1_000_000, 50, 1_000_001, 100, 1_000_000)
	checkFirst(t, "a tank that holds less at last", api.Bench{Table: falls}, wrongCatch, api.ErrArg)
}

// Benches that are valid, at their limits.
func TestRightBenches(t *testing.T) {
	most := api.Bench{Table: marks(0, 1, api.MaxAt, api.MaxValue), Off: 0, Buoy: span(0, api.MaxBuoy), Air: span(0, api.MaxValue)}
	checkWater(t, "a tank", most, api.Catch{Begin: one(0), End: one(api.MaxAt)}, span(9_999_999, 19_999_999), api.OK)
	most.Weighs = true
	checkWater(t, "a scale", most, api.Catch{Begin: one(0), End: one(api.MaxValue), Warm: one(api.MaxAt)}, span(1_000_000, 11_010_000), api.OK)
	long := api.Bench{Table: longTable(api.MaxTable)}
	checkWater(t, "many marks", long, api.Catch{Begin: one(0), End: one(11)}, one(11), api.OK)
	checkFirst(t, "all of it off", api.Bench{Table: longTable(2), Off: api.MaxValue}, api.Catch{Begin: one(0), End: one(1)}, api.ErrShort)
	checkFirst(t, "all of it off", api.Bench{Weighs: true, Table: longTable(2), Off: api.MaxValue}, grams(one(api.MaxValue)), api.ErrShort)
}

// ErrRange comes second: catches that are not right, even if there is too little water.
func TestWrongCatches(t *testing.T) {
	tank := api.Bench{Table: marks(10, 100, 20, 200)}
	scale := api.Bench{Weighs: true, Table: marks(10, 1_000_000, 20, 1_000_000)}
	for _, s := range []api.Span{span(15, 14), span(9, 12), one(9), span(12, 21), one(21), one(-1), span(math.MinInt, math.MaxInt), span(math.MaxInt, math.MinInt)} {
		checkFirst(t, "a height at first", tank, api.Catch{Begin: s, End: one(20)}, api.ErrRange)
		checkFirst(t, "a height at last", tank, api.Catch{Begin: one(10), End: s}, api.ErrRange)
		checkFirst(t, "a height, and too little", tank, api.Catch{Begin: one(20), End: s}, api.ErrRange)
		checkFirst(t, "a warmth", scale, api.Catch{Begin: one(0), End: one(50), Warm: s}, api.ErrRange)
		checkFirst(t, "a warmth, and too little", scale, api.Catch{Begin: one(50), End: one(0), Warm: s}, api.ErrRange)
		checkWater(t, "the warmth of a tank", tank, api.Catch{Begin: one(10), End: one(20), Warm: s}, one(100), api.OK)
	}
	for _, s := range []api.Span{span(15, 14), span(-1, 5), one(-1), span(5, api.MaxValue+1), one(api.MaxValue + 1), span(math.MinInt, math.MaxInt)} {
		checkFirst(t, "a weight at first", scale, api.Catch{Begin: s, End: one(50), Warm: one(10)}, api.ErrRange)
		checkFirst(t, "a weight at last", scale, api.Catch{Begin: one(0), End: s, Warm: one(10)}, api.ErrRange)
	}
	checkWater(t, "heights at both ends", tank, api.Catch{Begin: one(10), End: one(20)}, one(100), api.OK)
	checkWater(t, "weights at both ends", scale, api.Catch{Begin: one(0), End: one(api.MaxValue), Warm: span(10, 20)}, one(api.MaxValue), api.OK)
}

// P1 and R2: whatever the arguments are, each function ends, and with an error all other results are zero values.
func TestAnyArguments(t *testing.T) {
	wild := []int{math.MinInt, math.MinInt + 1, -1, 0, 1, 2, 5, api.MaxAt, api.MaxAt + 1, api.MaxValue, api.MaxValue + 1, api.MaxLitres, math.MaxInt - 1, math.MaxInt}
	r := rand.New(rand.NewSource(11))
	anyInt := func() int { return pick(r, wild[r.Intn(len(wild))], r.Intn(100), r.Intn(api.MaxValue)) }
	anySpan := func() api.Span { return span(anyInt(), anyInt()) }
	valid := 0
	for range 40_000 {
		b, x := anyBench(r)
		if r.Intn(2) == 0 {
			b = api.Bench{Weighs: r.Intn(2) == 0, Off: anyInt(), Buoy: anySpan(), Air: anySpan()}
			for range r.Intn(15) {
				b.Table = append(b.Table, api.Mark{At: anyInt(), Value: anyInt()})
			}
		}
		if r.Intn(3) == 0 {
			x = api.Catch{Begin: anySpan(), End: anySpan(), Warm: anySpan()}
		}
		var row []api.Span
		for range r.Intn(20) {
			row = append(row, pick(r, anySpan(), one(r.Intn(1000)), one(r.Intn(1000))))
		}
		water, e1 := bench.Water(b, x)
		flow, e2 := bench.Flow(b, x, anySpan())
		errors, e3 := bench.Errors(b, x, row)
		passed, e4 := bench.Passed(b, x, row, anyInt())
		gap, e5 := bench.Gap(b, x, row, anyInt(), anyInt())
		if e1 != api.OK && water != (api.Span{}) || e2 != api.OK && flow != (api.Span{}) || e3 != api.OK && len(errors) > 0 || e4 != api.OK && len(passed) > 0 || e5 != api.OK && gap != (api.Span{}) {
			t.Fatal(b, x, row, water, e1, flow, e2, errors, e3, passed, e4, gap, e5)
		}
		if e1 == api.OK {
			valid++
		}
	}
	if valid < 1000 {
		t.Error("too few benches have water", valid)
	}
}
