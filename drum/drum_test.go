package drum_test

import (
	"math"
	"slices"
	"testing"

	"meterworks/api"
	"meterworks/drum"
)

func checkPlaces(t *testing.T, name string, r api.Register, total int, places []int, e api.Errno) {
	t.Helper()
	if got, gotE := drum.Places(r, total); !slices.Equal(got, places) || gotE != e {
		t.Errorf("%s: Places returns %v, %d, not %v, %d", name, got, gotE, places, e)
	}
}

func checkRun(t *testing.T, name string, r api.Register, runs []int, total int, figures []int, e api.Errno) {
	t.Helper()
	if gotTotal, got, gotE := drum.Run(r, runs); gotTotal != total || !slices.Equal(got, figures) || gotE != e {
		t.Errorf("%s: Run returns %d, %v, %d, not %d, %v, %d", name, gotTotal, got, gotE, total, figures, e)
	}
}

func checkFit(t *testing.T, name string, figures []int, within int, spans []api.Span, e api.Errno) {
	t.Helper()
	if got, gotE := drum.Fit(figures, within); !slices.Equal(got, spans) || gotE != e {
		t.Errorf("%s: Fit of %v within %d returns %v, %d, not %v, %d", name, figures, within, got, gotE, spans, e)
	}
}

func checkPulses(t *testing.T, name string, r api.Register, runs []int, at, counted, all int, e api.Errno) {
	t.Helper()
	if gotCounted, gotAll, gotE := drum.Pulses(r, runs, at); gotCounted != counted || gotAll != all || gotE != e {
		t.Errorf("%s: Pulses returns %d, %d, %d, not %d, %d, %d", name, gotCounted, gotAll, gotE, counted, all, e)
	}
}

// spans returns spans, their ends by turns.
func spans(ends ...int) []api.Span {
	var l []api.Span
	for i := 0; i+1 < len(ends); i += 2 {
		l = append(l, api.Span{Lo: ends[i], Hi: ends[i+1]})
	}
	return l
}

func register(drums, start int) api.Register { return api.Register{Drums: drums, Start: start} }

func TestExamples(t *testing.T) {
	three := register(3, 199400)
	checkPlaces(t, "example", three, 199500, []int{9500, 9500, 1500}, api.OK)
	checkPlaces(t, "example", three, 199400, []int{9400, 9400, 1400}, api.OK)
	checkPlaces(t, "example", three, 209400, []int{9400, 400, 2000}, api.OK)
	checkRun(t, "example", three, []int{100}, 199500, []int{0, 0, 2}, api.OK)
	checkRun(t, "example", three, []int{100, -200}, 199300, []int{9, 9, 1}, api.OK)
	checkRun(t, "example", register(1, 9000), []int{2500}, 1500, []int{2}, api.OK)
	checkRun(t, "example", register(1, 9000), []int{-20000}, 9000, []int{9}, api.OK)
	checkFit(t, "example", []int{0, 0, 2}, 600, spans(199400, 200600, 209400, 209600, 299400, 299600), api.OK)
	checkFit(t, "example", []int{0, 0, 2}, 500, spans(199500, 200500, 209500, 209500, 299500, 299500), api.OK)
	checkFit(t, "example", []int{0, 0, 2}, 0, spans(200000, 200000), api.OK)
	checkFit(t, "example", []int{5, 4}, 0, spans(45000, 45000), api.OK)
	checkFit(t, "example", []int{9, 4}, 300, spans(48700, 49300), api.OK)
	checkPulses(t, "example", register(1, 0), []int{25000, -25000}, 5000, 5, 5, api.OK)
	checkPulses(t, "example", register(1, 0), []int{5010, -20, 20}, 5000, 1, 3, api.OK)
}

func badRegisters() map[string]api.Register {
	return map[string]api.Register{
		"no drums":                   {Drums: 0, Start: 0},
		"drums below 0":              {Drums: -1, Start: 0},
		"too many drums":             {Drums: 7, Start: 0},
		"the most drums of all":      {Drums: math.MaxInt, Start: 0},
		"the least drums of all":     {Drums: math.MinInt, Start: 0},
		"start below 0":              {Drums: 3, Start: -1},
		"the least start of all":     {Drums: 3, Start: math.MinInt},
		"start at the turn":          {Drums: 3, Start: 1_000_000},
		"the most start of all":      {Drums: 6, Start: math.MaxInt},
		"start at the turn of one":   {Drums: 1, Start: 10_000},
		"start at the turn of six":   {Drums: 6, Start: 1_000_000_000},
		"nothing and an odd start":   {Drums: 0, Start: 999},
		"neither drums nor a start":  {Drums: -3, Start: -3},
		"too many drums and a start": {Drums: 8, Start: 99_999},
	}
}

// ErrArg comes before all other errors, which hold here as well.
func TestBadRegister(t *testing.T) {
	long := slices.Repeat([]int{api.MaxRun + 1}, api.MaxRuns+1)
	for name, r := range badRegisters() {
		for _, total := range []int{0, 500, -1, math.MaxInt} {
			checkPlaces(t, name, r, total, nil, api.ErrArg)
		}
		for _, runs := range [][]int{nil, {5}, {api.MaxRun + 1}, long} {
			checkRun(t, name, r, runs, 0, nil, api.ErrArg)
			checkPulses(t, name, r, runs, 0, 0, 0, api.ErrArg)
			checkPulses(t, name, r, runs, -1, 0, 0, api.ErrArg)
		}
	}
}

// P2.1: a total of the register, whatever its Start is.
func TestPlaces(t *testing.T) {
	for drums := 1; drums <= api.MaxDrums; drums++ {
		turn := turnOf(drums)
		for _, start := range []int{0, 1, turn - 1} {
			r := register(drums, start)
			checkPlaces(t, "the first total", r, 0, make([]int, drums), api.OK)
			checkPlaces(t, "the end of a turn", r, turn-1, slices.Repeat([]int{9999}, drums), api.OK)
			checkPlaces(t, "the turn itself", r, turn, nil, api.ErrRange)
			for _, total := range []int{-1, math.MinInt, turn + 1, math.MaxInt} {
				checkPlaces(t, "no total", r, total, nil, api.ErrRange)
			}
		}
	}
	checkPlaces(t, "a drum at 9 gives no carry yet", register(3, 0), 99000, []int{9000, 9000, 0}, api.OK)
	checkPlaces(t, "the least carry", register(3, 0), 99001, []int{9001, 9001, 1}, api.OK)
	checkPlaces(t, "the carry ends", register(3, 0), 100000, []int{0, 0, 1000}, api.OK)
	checkPlaces(t, "a carry that a drum does not pass on", register(3, 0), 989999, []int{9999, 8999, 9000}, api.OK)
	checkPlaces(t, "a drum at 9 before one that moves not", register(3, 0), 98999, []int{8999, 9000, 0}, api.OK)
	checkPlaces(t, "six drums half-way", register(6, 0), 199_999_500, []int{9500, 9500, 9500, 9500, 9500, 1500}, api.OK)
	checkPlaces(t, "six drums, no carry", register(6, 0), 987_654_321, []int{4321, 5000, 6000, 7000, 8000, 9000}, api.OK)
}

// P2.1: against the words of the document, all totals of few drums.
func TestPlacesOfAllTotals(t *testing.T) {
	for drums := 1; drums <= 3; drums++ {
		r := register(drums, 0)
		for total := range turnOf(drums) {
			if got, e := drum.Places(r, total); !slices.Equal(got, placesOf(drums, total)) || e != api.OK {
				t.Fatalf("Places of %d drums at %d returns %v, %d", drums, total, got, e)
			}
		}
	}
}

// P2.2, the errors in their order.
func TestRunErrors(t *testing.T) {
	r := register(3, 5)
	most := slices.Repeat([]int{api.MaxRun}, api.MaxRuns)
	checkRun(t, "too many runs", r, make([]int, api.MaxRuns+1), 0, nil, api.ErrLong)
	checkRun(t, "too many runs, one too long", r, append(slices.Clone(most), api.MaxRun+1), 0, nil, api.ErrLong)
	checkRun(t, "too many runs, the first too long", r, append([]int{-api.MaxRun - 1}, most...), 0, nil, api.ErrLong)
	for _, bad := range []int{api.MaxRun + 1, -api.MaxRun - 1, math.MaxInt, math.MinInt} {
		checkRun(t, "one run, too long", r, []int{bad}, 0, nil, api.ErrRange)
		checkRun(t, "the last run too long", r, append(slices.Clone(most[1:]), bad), 0, nil, api.ErrRange)
		checkRun(t, "the first run too long", r, append([]int{bad}, most[1:]...), 0, nil, api.ErrRange)
	}
}

func TestRun(t *testing.T) {
	checkRun(t, "no runs", register(3, 199500), nil, 199500, []int{0, 0, 2}, api.OK)
	checkRun(t, "an empty list", register(3, 199500), []int{}, 199500, []int{0, 0, 2}, api.OK)
	checkRun(t, "a run of 0", register(3, 199499), []int{0}, 199499, []int{9, 9, 1}, api.OK)
	checkRun(t, "half-way", register(1, 0), []int{4499}, 4499, []int{4}, api.OK)
	checkRun(t, "half-way", register(1, 0), []int{4500}, 4500, []int{5}, api.OK)
	checkRun(t, "half-way after 9", register(1, 0), []int{9500}, 9500, []int{0}, api.OK)
	checkRun(t, "the end of a turn", register(6, 999_999_999), nil, 999_999_999, make([]int, 6), api.OK)
	checkRun(t, "over the end of a turn", register(6, 999_999_999), []int{1}, 0, make([]int, 6), api.OK)
	checkRun(t, "back over the end of a turn", register(6, 0), []int{-1}, 999_999_999, make([]int, 6), api.OK)
	checkRun(t, "back over the end of a turn", register(2, 0), []int{-1000}, 99000, []int{9, 9}, api.OK)
	checkRun(t, "just a turn", register(2, 700), []int{100_000}, 700, []int{1, 0}, api.OK)
	checkRun(t, "just some turns back", register(2, 700), []int{-700_000}, 700, []int{1, 0}, api.OK)
	// 32 times 2^40 is 35184372088832.
	most := slices.Repeat([]int{api.MaxRun}, api.MaxRuns)
	checkRun(t, "the most runs", register(6, 0), most, 372_088_832, []int{9, 8, 0, 2, 7, 3}, api.OK)
	least := slices.Repeat([]int{-api.MaxRun}, api.MaxRuns)
	checkRun(t, "the most runs back", register(6, 0), least, 627_911_168, []int{1, 1, 9, 7, 2, 6}, api.OK)
	checkRun(t, "there and back", register(6, 123_456_789), append(slices.Clone(most[:16]), least[:16]...), 123_456_789, []int{7, 5, 4, 3, 2, 1}, api.OK)
}

// P2.3, the errors in their order.
func TestFitErrors(t *testing.T) {
	for _, within := range []int{0, 500, -1, 1000, math.MaxInt, math.MinInt} {
		for _, figures := range [][]int{nil, {}, {-1}, {10}, {0, 0, 10}, {10, 0}, {0, -1, 0}, {math.MaxInt}, {math.MinInt, 3}, make([]int, 7), {0, 0, 0, 0, 0, 0, 10}} {
			checkFit(t, "no reading", figures, within, nil, api.ErrArg)
		}
	}
	for _, within := range []int{-1, 1000, math.MaxInt, math.MinInt} {
		checkFit(t, "no bound", []int{0, 0, 2}, within, nil, api.ErrRange)
		checkFit(t, "no bound", []int{9, 9, 9, 9, 9, 9}, within, nil, api.ErrRange)
	}
}

func TestFit(t *testing.T) {
	checkFit(t, "one drum", []int{4}, 999, spans(3001, 4999), api.OK)
	checkFit(t, "one drum at 0", []int{0}, 999, spans(0, 999, 9001, 9999), api.OK)
	checkFit(t, "one drum at 0, within 1", []int{0}, 1, spans(0, 1, 9999, 9999), api.OK)
	checkFit(t, "one drum at 0, within 0", []int{0}, 0, spans(0, 0), api.OK)
	checkFit(t, "one drum at 9", []int{9}, 999, spans(8001, 9999), api.OK)
	checkFit(t, "one drum at 9, within 0", []int{9}, 0, spans(9000, 9000), api.OK)
	checkFit(t, "spans that join over two carries", []int{0, 0, 2}, 999, spans(199001, 200999, 209001, 209999, 299001, 299999), api.OK)
	checkFit(t, "a carry that cannot be", []int{9, 0}, 400, spans(8600, 9400), api.OK)
	checkFit(t, "a carry just half-way", []int{9, 0}, 500, spans(8500, 9500, 99500, 99500), api.OK)
	checkFit(t, "a carry about half-way", []int{9, 0}, 600, spans(8400, 9600, 99400, 99600), api.OK)
	checkFit(t, "near the end of the turn", []int{0, 0, 0, 0, 0, 0}, 300, spans(0, 300, 999_999_700, 999_999_999), api.OK)
	checkFit(t, "half-way before the end of the turn", []int{0, 0, 0, 0, 0, 0}, 500, spans(0, 500, 9500, 9500, 99_500, 99_500, 999_500, 999_500, 9_999_500, 9_999_500, 99_999_500, 99_999_500, 999_999_500, 999_999_999), api.OK)
	checkFit(t, "a carry from 8 to 9", []int{9, 9}, 999, spans(89_001, 89_999, 98_001, 99_999), api.OK)
}

// P2.3: against the words of the document, all totals of few drums.
func TestFitAgainstAllTotals(t *testing.T) {
	bounds := []int{0, 1, 250, 499, 500, 501, 600, 750, 998, 999}
	for n := range 10 {
		for _, within := range bounds {
			checkFit(t, "one drum", []int{n}, within, spansOfAll([]int{n}, within), api.OK)
		}
	}
	for n := range 100 {
		figures := []int{n % 10, n / 10}
		for _, within := range bounds {
			checkFit(t, "two drums", figures, within, spansOfAll(figures, within), api.OK)
		}
	}
	for _, figures := range [][]int{{0, 0, 0}, {0, 0, 2}, {9, 9, 9}, {9, 0, 0}, {0, 9, 1}, {9, 9, 5}, {8, 9, 0}, {0, 5, 9}, {3, 1, 4}} {
		for _, within := range []int{0, 499, 500, 700, 999} {
			checkFit(t, "three drums", figures, within, spansOfAll(figures, within), api.OK)
		}
	}
}

// P2.4: the errors of Run come first, then that of the place.
func TestPulsesErrors(t *testing.T) {
	r := register(1, 0)
	for _, at := range []int{0, -1, 10_000} {
		checkPulses(t, "too many runs", r, slices.Repeat([]int{api.MaxRun + 1}, 33), at, 0, 0, api.ErrLong)
		checkPulses(t, "a run too long", r, []int{5, api.MaxRun + 1}, at, 0, 0, api.ErrRange)
		checkPulses(t, "a run too far back", r, []int{5, -api.MaxRun - 1}, at, 0, 0, api.ErrRange)
	}
	for _, at := range []int{-1, 10_000, math.MaxInt, math.MinInt} {
		checkPulses(t, "no place", r, []int{5}, at, 0, 0, api.ErrRange)
		checkPulses(t, "no place, no runs", r, nil, at, 0, 0, api.ErrRange)
	}
	checkPulses(t, "the last place", r, []int{10_000}, 9999, 1, 1, api.OK)
}

func TestPulses(t *testing.T) {
	zero := register(1, 0)
	checkPulses(t, "no runs", zero, nil, 0, 0, 0, api.OK)
	checkPulses(t, "runs of 0", zero, []int{0, 0}, 0, 0, 0, api.OK)
	checkPulses(t, "from the place on", zero, []int{9999}, 0, 0, 0, api.OK)
	checkPulses(t, "up to the place", zero, []int{10_000}, 0, 1, 1, api.OK)
	checkPulses(t, "back from the place", zero, []int{-9999}, 0, 0, 0, api.OK)
	checkPulses(t, "back to the place", zero, []int{-10_000}, 0, 1, 1, api.OK)
	checkPulses(t, "back to just before the place", register(1, 5001), []int{-1}, 5000, 1, 1, api.OK)
	checkPulses(t, "away from the place", register(1, 5000), []int{-1}, 5000, 0, 0, api.OK)
	checkPulses(t, "up to the place, and on", zero, []int{5000, 5000}, 5000, 1, 1, api.OK)
	checkPulses(t, "up to the place, and back from it", zero, []int{5000, -5000}, 5000, 1, 1, api.OK)
	checkPulses(t, "over the place, and back to it", zero, []int{5001, -1}, 5000, 1, 2, api.OK)
	checkPulses(t, "a run of 0 at the place", zero, []int{5010, 0, -20, 0, 20}, 5000, 1, 3, api.OK)
	checkPulses(t, "back, then forward", register(1, 5010), []int{-20, 20, -20, 20}, 5000, 1, 4, api.OK)
	checkPulses(t, "a bounce at each end", zero, []int{15_010, -10_020, 10_020}, 5000, 4, 6, api.OK)
	checkPulses(t, "below 0", zero, []int{-15_010, 20, -20}, 5000, 2, 4, api.OK)
	checkPulses(t, "a bounce at 0", zero, []int{10, -20, 20}, 0, 1, 2, api.OK)
	checkPulses(t, "a whole turn on is no bounce", register(1, 4990), []int{20, 10_000}, 5000, 2, 2, api.OK)
	checkPulses(t, "a turn on and back, the same place each time", register(1, 4990), []int{10_020, -5, 5}, 5000, 2, 2, api.OK)
	checkPulses(t, "only the closing directly before makes a bounce", zero, []int{15_000, -10_001, 1}, 5000, 3, 4, api.OK)
	// 2^40 is 109951162 times 10000, and 7776.
	checkPulses(t, "the longest run, less", zero, []int{api.MaxRun}, 7777, 109_951_162, 109_951_162, api.OK)
	checkPulses(t, "the longest run", zero, []int{api.MaxRun}, 7776, 109_951_163, 109_951_163, api.OK)
	checkPulses(t, "the longest run back", zero, []int{-api.MaxRun}, 2224, 109_951_163, 109_951_163, api.OK)
	checkPulses(t, "the longest run back, less", zero, []int{-api.MaxRun}, 2223, 109_951_162, 109_951_162, api.OK)
	most := slices.Repeat([]int{api.MaxRun, -api.MaxRun}, api.MaxRuns/2)
	checkPulses(t, "the longest runs there and back", zero, most, 5000, 32*109_951_163-31, 32*109_951_163, api.OK)
}
