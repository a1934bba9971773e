package bench_test

import (
	"math/big"
	"math/rand"
	"slices"
	"testing"

	"meterworks/api"
	"meterworks/bench"
)

// P4.1 to P4.5: against all truths in which each number is at an end of its span, or at a mark.
func TestAgainstCorners(t *testing.T) {
	r := rand.New(rand.NewSource(1))
	short := map[bool]int{}
	seen := map[int]int{}
	for range 1200 {
		b, x := anyBench(r)
		through, enough := waterOf(b, x)
		if !enough {
			checkFirst(t, "all corners", b, x, api.ErrShort)
			short[b.Weighs]++
			continue
		}
		checkWater(t, "all corners", b, x, through, api.OK)
		time := anySpanIn(r, 1, pick(r, 5, 10_000, api.MaxTime))
		checkFlow(t, "all corners", b, x, time, flowOf(through, time), api.OK)
		row := anyRow(r, through)
		most := anyMost(r, through, row)
		var errors []api.Span
		var passed []int
		for i, shown := range row {
			errors = append(errors, errorsOf(through, shown))
			passed = append(passed, passedOf(through, shown, most))
			seen[passed[i]]++
			if k := r.Intn(len(row)); k != i {
				checkGap(t, "all corners", b, x, row, i, k, gapOf(through, shown, row[k]), api.OK)
			}
		}
		checkErrors(t, "all corners", b, x, row, errors, api.OK)
		checkPassed(t, "all corners", b, x, row, most, passed, api.OK)
		if t.Failed() {
			return
		}
	}
	if min(short[true], short[false]) < 30 || max(short[true], short[false]) > 400 {
		t.Error("too few benches have too little water, or too many", short)
	}
	if min(seen[api.No], seen[api.Perhaps], seen[api.Yes]) < 50 {
		t.Error("the meters are too much alike", seen)
	}
}

// P4.4: all meters beside little water, with all limits that decide something.
func TestPassedOfLittleWater(t *testing.T) {
	b := plainScale()
	for lo := 1; lo <= 4; lo++ {
		for hi := lo; hi <= 5; hi++ {
			for from := 0; from <= 9; from++ {
				for to := from; to <= 9; to++ {
					e := errorsOf(span(lo, hi), span(from, to))
					for _, most := range []int{0, 1, 1000, 2500, 3333, 3334, 5000, 6666, 6667, 10000, e.Lo, -e.Lo, e.Hi, -e.Hi, -e.Hi - 1, e.Lo - 1} {
						if most >= 0 && most <= api.MaxMiss {
							checkPassed(t, "little water", b, grams(span(lo, hi)), []api.Span{span(from, to)}, most, []int{passedOf(span(lo, hi), span(from, to), most)}, api.OK)
						}
					}
				}
			}
		}
	}
}

// anyIn returns any number of a span, not only integers.
func anyIn(r *rand.Rand, s api.Span) *big.Rat {
	parts := 1 + r.Intn(30)
	return sum(whole(s.Lo), times(whole(s.Hi-s.Lo), big.NewRat(int64(r.Intn(parts+1)), int64(parts))))
}

func anyTruth(r *rand.Rand, b api.Bench, x api.Catch) truth {
	off := span(-b.Off, b.Off)
	return truth{anyIn(r, x.Begin), anyIn(r, x.End), anyIn(r, off), anyIn(r, off), anyIn(r, x.Warm), anyIn(r, b.Buoy), anyIn(r, b.Air)}
}

// checkTruth checks that all that is said of a catch is so in a truth, in which each meter showed an integer of its span.
func checkTruth(t *testing.T, r *rand.Rand, b api.Bench, x api.Catch, row []api.Span) {
	t.Helper()
	made := anyTruth(r, b, x)
	through := sum(made.water(b), made.air)
	time := anySpanIn(r, 1, 100_000)
	most := r.Intn(api.MaxMiss + 1)
	water, _ := bench.Water(b, x)
	flow, _ := bench.Flow(b, x, time)
	errors, _ := bench.Errors(b, x, row)
	passed, _ := bench.Passed(b, x, row, most)
	if !contains(water, through) || !contains(flow, over(times(through, whole(3600)), anyIn(r, time))) {
		t.Error(b, x, made, through, time, "is not in", water, flow)
	}
	var real []*big.Rat
	for _, shown := range row {
		real = append(real, errorOf(whole(shown.Lo+r.Intn(shown.Hi-shown.Lo+1)), through))
	}
	for i, e := range real {
		passes := new(big.Rat).Abs(e).Cmp(whole(most)) <= 0
		if !contains(errors[i], e) || passed[i] == api.Yes && !passes || passed[i] == api.No && passes {
			t.Error(b, x, made, row, i, e, most, "is not in", errors[i], "or", passed[i], "is not so")
		}
		if i == 0 {
			continue
		}
		if gap, _ := bench.Gap(b, x, row, i, i-1); !contains(gap, less(e, real[i-1])) {
			t.Error(b, x, made, row, i, "differ by more, or less, than", gap)
		}
	}
}

// P4.7: whatever was true, all is within its span.
func TestWhateverIsTrue(t *testing.T) {
	r := rand.New(rand.NewSource(2))
	for range 1500 {
		b, x := anyBench(r)
		water, e := bench.Water(b, x)
		if e != api.OK {
			continue
		}
		row := anyRow(r, water)
		for range 4 {
			checkTruth(t, r, b, x, row)
		}
		if t.Failed() {
			return
		}
	}
}

// P4.7: a gap is never wider than the errors of both meters together allow, and a greater most passes all that a lesser one does.
func TestGapsAndLimits(t *testing.T) {
	r := rand.New(rand.NewSource(3))
	for range 1500 {
		b, x := anyBench(r)
		water, e := bench.Water(b, x)
		if e != api.OK {
			continue
		}
		row := anyRow(r, water)
		errors, _ := bench.Errors(b, x, row)
		for i := range row {
			for k := range row {
				gap, e := bench.Gap(b, x, row, i, k)
				if (i == k) != (e == api.ErrRange) || i != k && (gap.Lo < errors[i].Lo-errors[k].Hi || gap.Hi > errors[i].Hi-errors[k].Lo) {
					t.Fatal(b, x, row, i, k, gap, e, "is wider than", errors[i], errors[k])
				}
			}
		}
		most := anyMost(r, water, row)
		passed, _ := bench.Passed(b, x, row, most)
		more, _ := bench.Passed(b, x, row, most+r.Intn(api.MaxMiss-most+1))
		for i := range row {
			if more[i] < passed[i] {
				t.Fatal(b, x, row, most, passed, "fails with more", more)
			}
		}
	}
}

// narrower returns a span within another one.
func narrower(r *rand.Rand, s api.Span) api.Span {
	if s.Lo > s.Hi || r.Intn(3) == 0 {
		return s
	}
	lo := s.Lo + r.Intn(s.Hi-s.Lo+1)
	return span(lo, lo+r.Intn(s.Hi-lo+1))
}

func isWithin(s, wide api.Span) bool { return s.Lo >= wide.Lo && s.Hi <= wide.Hi && s.Lo <= s.Hi }

// P4.7: with narrower spans nothing is wider.
func TestNarrowerSpans(t *testing.T) {
	r := rand.New(rand.NewSource(4))
	for range 3000 {
		b, x := anyBench(r)
		water, e := bench.Water(b, x)
		if e != api.OK {
			continue
		}
		b2, x2 := b, api.Catch{Begin: narrower(r, x.Begin), End: narrower(r, x.End), Warm: narrower(r, x.Warm)}
		b2.Off, b2.Buoy, b2.Air = r.Intn(b.Off+1), narrower(r, b.Buoy), narrower(r, b.Air)
		row := append(anyRow(r, water), one(5), span(3, 9))[:2]
		row2 := []api.Span{narrower(r, row[0]), narrower(r, row[1])}
		time := anySpanIn(r, 1, api.MaxTime)
		most := anyMost(r, water, row)
		water2, e := bench.Water(b2, x2)
		flow, _ := bench.Flow(b, x, time)
		flow2, _ := bench.Flow(b2, x2, narrower(r, time))
		errors, _ := bench.Errors(b, x, row)
		errors2, _ := bench.Errors(b2, x2, row2)
		passed, _ := bench.Passed(b, x, row, most)
		passed2, _ := bench.Passed(b2, x2, row2, most)
		gap, _ := bench.Gap(b, x, row, 0, 1)
		gap2, _ := bench.Gap(b2, x2, row2, 0, 1)
		if e != api.OK || !isWithin(water2, water) || !isWithin(flow2, flow) || !isWithin(gap2, gap) {
			t.Fatal(b, x, row, b2, x2, row2, "is wider", e, water2, flow2, gap2)
		}
		for i := range row {
			if !isWithin(errors2[i], errors[i]) || passed[i] != api.Perhaps && passed2[i] != passed[i] {
				t.Fatal(b, x, row, b2, x2, row2, "is wider", errors2, passed2)
			}
		}
	}
}

// P4.7 and P11: the order of the meters makes no difference to any of them.
func TestOrderOfMeters(t *testing.T) {
	r := rand.New(rand.NewSource(5))
	for range 800 {
		b, x := anyBench(r)
		water, e := bench.Water(b, x)
		if e != api.OK {
			continue
		}
		row := anyRow(r, water)
		most := anyMost(r, water, row)
		order := r.Perm(len(row))
		mixed := make([]api.Span, len(row))
		for i, j := range order {
			mixed[i] = row[j]
		}
		errors, _ := bench.Errors(b, x, row)
		errors2, _ := bench.Errors(b, x, mixed)
		passed, _ := bench.Passed(b, x, row, most)
		passed2, _ := bench.Passed(b, x, mixed, most)
		for i, j := range order {
			alone, _ := bench.Errors(b, x, row[j:j+1])
			if errors2[i] != errors[j] || passed2[i] != passed[j] || alone[0] != errors[j] {
				t.Fatal(b, x, row, order, errors, errors2, passed, passed2, alone)
			}
			if i == 0 {
				continue
			}
			gap, _ := bench.Gap(b, x, row, j, order[i-1])
			checkGap(t, "in another order", b, x, mixed, i, i-1, gap, api.OK)
		}
	}
}

// P4.6: arguments are only read, also behind their ends, and results are new, and the same again.
func TestMemory(t *testing.T) {
	for _, b := range []api.Bench{exampleTank(), exampleScale()} {
		x := tankCatch()
		if b.Weighs {
			x = scaleCatch()
		}
		table := append(slices.Clone(b.Table), api.Mark{At: 7, Value: 7})
		row := append(exampleRow(), span(7, 7))
		b.Table = table[:len(table)-1]
		tableBefore, rowBefore := slices.Clone(table), slices.Clone(row)
		short := row[:2]
		errors, _ := bench.Errors(b, x, short)
		passed, _ := bench.Passed(b, x, short, 200)
		bench.Water(b, x)
		bench.Flow(b, x, one(5))
		bench.Gap(b, x, short, 0, 1)
		if !slices.Equal(table, tableBefore) || !slices.Equal(row, rowBefore) {
			t.Error("an argument was changed", table, row)
		}
		errorsBefore, passedBefore := slices.Clone(errors), slices.Clone(passed)
		for i := range errors {
			errors[i], passed[i] = span(77, 77), 77
		}
		if !slices.Equal(row, rowBefore) {
			t.Error("a result is an argument", row)
		}
		checkErrors(t, "again", b, x, short, errorsBefore, api.OK)
		checkPassed(t, "again", b, x, short, 200, passedBefore, api.OK)
	}
}
