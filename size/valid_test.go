package size_test

import (
	"math"
	"math/rand"
	"reflect"
	"slices"
	"testing"

	"meterworks/api"
	"meterworks/size"
)

// checkAll checks that each function returns the same error, with whatever sizes and loss.
func checkAll(t *testing.T, name string, h api.House, l []api.Size, s api.Size, loss int, e api.Errno) {
	t.Helper()
	t.Run(name, func(t *testing.T) {
		t.Helper()
		checkPeak(t, h, api.Span{}, 0, e)
		checkStarved(t, h, s, 0, false, e)
		checkChoose(t, h, l, 0, e)
		checkPair(t, h, l, 0, 0, 0, e)
		checkLeast(t, h, loss, 0, e)
	})
}

// ErrArg comes first: houses that are not valid, with valid sizes, with none, and with wrong ones.
func TestWrongHouses(t *testing.T) {
	for name, change := range map[string]func(h *api.House){
		"Head below 0":                  func(h *api.House) { h.Head = -1 },
		"Head too great":                func(h *api.House) { h.Head = api.MaxHead + 1 },
		"Head far too little":           func(h *api.House) { h.Head = math.MinInt },
		"Head far too great":            func(h *api.House) { h.Head = math.MaxInt },
		"Drip below 0":                  func(h *api.House) { h.Drip = -1 },
		"Drip too great":                func(h *api.House) { h.Drip = api.MaxFull + 1 },
		"no taps":                       func(h *api.House) { h.Taps, h.Rules = nil, nil },
		"no taps, an empty list":        func(h *api.House) { h.Taps, h.Rules = []api.Tap{}, nil },
		"no taps, but a rule of none":   func(h *api.House) { h.Taps, h.Rules = nil, []api.Rule{rule(0, 0)} },
		"too many taps":                 func(h *api.House) { h.Taps = append(ten(tap(1, 2, 3)), tap(1, 2, 3)) },
		"far too many taps":             func(h *api.House) { h.Taps = make([]api.Tap, 70) },
		"the first tap below 0":         func(h *api.House) { h.Taps[0] = tap(-1, 5, 5) },
		"the last tap below 0":          func(h *api.House) { h.Taps[2] = tap(-2, -1, 5) },
		"a tap far below 0":             func(h *api.House) { h.Taps[1] = tap(math.MinInt, 5, 5) },
		"a tap that takes too much":     func(h *api.House) { h.Taps[2] = tap(5, api.MaxTake+1, 5) },
		"a tap that takes far too much": func(h *api.House) { h.Taps[0] = tap(5, math.MaxInt, 5) },
		"a tap beyond all":              func(h *api.House) { h.Taps[0] = tap(api.MaxTake+1, api.MaxTake+1, 5) },
		"a tap the wrong way round":     func(h *api.House) { h.Taps[1] = tap(6, 5, 5) },
		"a need below 0":                func(h *api.House) { h.Taps[0].Need = -1 },
		"a need too great":              func(h *api.House) { h.Taps[2].Need = api.MaxHead + 1 },
		"too many rules":                func(h *api.House) { h.Rules = slices.Repeat(h.Rules, api.MaxRules+1) },
		"a rule of taps below 0":        func(h *api.House) { h.Rules[0].Taps = -1 },
		"a rule of one tap more":        func(h *api.House) { h.Rules[0].Taps = 8 },
		"a rule of all and one more":    func(h *api.House) { h.Rules[0].Taps = 15 },
		"a rule of far more":            func(h *api.House) { h.Rules[0].Taps = math.MaxInt },
		"a rule of far less":            func(h *api.House) { h.Rules[0].Taps = math.MinInt },
		"a rule for fewer than none":    func(h *api.House) { h.Rules[0].Most = -1 },
		"a rule for too many":           func(h *api.House) { h.Rules[0].Most = api.MaxTaps + 1 },
		"the last rule for too many":    func(h *api.House) { h.Rules = append(h.Rules, rule(3, 1), rule(0, api.MaxTaps+1)) },
	} {
		h := changed(change)
		checkAll(t, name, h, exampleSizes(), exampleSizes()[0], 200, api.ErrArg)
		checkAll(t, "no sizes, "+name, h, nil, api.Size{}, 0, api.ErrArg)
		checkAll(t, "wrong sizes, "+name, h, []api.Size{{}}, meter(-1, 0, -1, -1), -1, api.ErrArg)
	}
}

// ErrRange comes before all else: with a house that some sizes starve, whose drip none hears, and with one that is never starved.
func TestWrongSizes(t *testing.T) {
	never := with(exampleHouse(), rule(7, 0))
	deaf := changed(func(h *api.House) { h.Drip = 0 })
	for name, s := range map[string]api.Size{
		"Full 0":              meter(0, 0, 200, 10),
		"Full below 0":        meter(0, -1, 200, 10),
		"Full too great":      meter(5, api.MaxFull+1, 200, 10),
		"Full far too great":  meter(5, math.MaxInt, 200, 10),
		"Full far too little": meter(5, math.MinInt, 200, 10),
		"Start below 0":       meter(-1, 1200, 200, 10),
		"Start beyond Full":   meter(1201, 1200, 200, 10),
		"Start far beyond":    meter(math.MaxInt, 1200, 200, 10),
		"Loss below 0":        meter(5, 1200, -1, 10),
		"Loss too great":      meter(5, 1200, api.MaxHead+1, 10),
		"Price below 0":       meter(5, 1200, 200, -1),
		"Price too great":     meter(5, 1200, 200, api.MaxMeterPrice+1),
		"all of it 0":         {},
	} {
		for _, h := range []api.House{exampleHouse(), never, deaf} {
			t.Run(name, func(t *testing.T) {
				checkStarved(t, h, s, 0, false, api.ErrRange)
				for i := range exampleSizes() {
					l := exampleSizes()
					l[i] = s
					checkChoose(t, h, l, 0, api.ErrRange)
					checkPair(t, h, l, 0, 0, 0, api.ErrRange)
				}
				checkChoose(t, h, []api.Size{s}, 0, api.ErrRange)
				checkPair(t, h, []api.Size{s}, 0, 0, 0, api.ErrRange)
			})
		}
	}
	for name, l := range map[string][]api.Size{
		"two with the same Full":     {meter(5, 1200, 200, 10), meter(5, 1200, 300, 20)},
		"the greater one first":      {meter(5, 1201, 200, 10), meter(5, 1200, 200, 10)},
		"the last one is too little": append(exampleSizes(), meter(5, 3000, 200, 10)),
		"the last one is the least":  append(exampleSizes(), meter(0, 1, 200, 10)),
		"too many":                   rising(api.MaxSizes+1, 1500),
		"far too many":               rising(100, 1500),
	} {
		for _, h := range []api.House{exampleHouse(), never, deaf} {
			t.Run(name, func(t *testing.T) {
				checkChoose(t, h, l, 0, api.ErrRange)
				checkPair(t, h, l, 0, 0, 0, api.ErrRange)
			})
		}
	}
}

// All limits are reached, and none is passed.
func TestLimits(t *testing.T) {
	h := house(api.MaxHead, api.MaxFull, ten(tap(api.MaxTake, api.MaxTake, api.MaxHead))...)
	h.Rules = slices.Repeat([]api.Rule{rule(1023, api.MaxTaps)}, api.MaxRules)
	checkPeak(t, h, span(1_000_000, 1_000_000), 1023, api.OK)
	checkStarved(t, h, meter(api.MaxFull, api.MaxFull, api.MaxHead, api.MaxMeterPrice), 1, true, api.OK)
	l := rising(api.MaxSizes, api.MaxFull-api.MaxSizes+1)
	last := len(l) - 1
	l[last] = meter(api.MaxFull, api.MaxFull, 0, api.MaxMeterPrice)
	checkChoose(t, h, l, last, api.OK)
	checkPair(t, h, l, 0, 0, 0, api.ErrNone)
	l[last].Start = l[0].Full
	checkPair(t, h, l, 0, last, api.MaxMeterPrice, api.OK)
	checkLeast(t, h, 0, api.MaxFull, api.OK)
	checkLeast(t, h, api.MaxHead, 0, api.ErrNone)
	least := house(0, 0, tap(0, 0, 0))
	least.Rules = []api.Rule{rule(0, 0), rule(1, api.MaxTaps)}
	checkPeak(t, least, span(0, 0), 0, api.OK)
	checkStarved(t, least, meter(0, 1, 0, 0), 0, false, api.ErrNone)
	checkChoose(t, least, []api.Size{meter(0, 1, 0, 0)}, 0, api.OK)
	checkLeast(t, least, 0, 1, api.OK)
	checkLeast(t, least, api.MaxHead, 1, api.OK)
}

// R4: no argument is changed.
func TestMemory(t *testing.T) {
	h, l := exampleHouse(), exampleSizes()
	for range 2 {
		checkPeak(t, h, span(800, 1100), 6, api.OK)
		checkStarved(t, h, l[0], 6, false, api.OK)
		checkChoose(t, h, l, 1, api.OK)
		checkPair(t, h, l, 0, 1, 25, api.OK)
		checkLeast(t, h, 200, 1100, api.OK)
	}
	if !reflect.DeepEqual(h, exampleHouse()) || !slices.Equal(l, exampleSizes()) {
		t.Error("an argument was changed", h, l)
	}
}

// P1 and R2: whatever the arguments are, each function ends, and with an error all other results are zero values.
func TestAnyArguments(t *testing.T) {
	r := rand.New(rand.NewSource(1))
	wild := []int{math.MinInt, -1, 0, 1, 7, 8, 9, 10, 11, 12, 13, 1023, 1024, api.MaxHead, api.MaxHead + 1, api.MaxTake, api.MaxTake + 1, api.MaxFull, api.MaxFull + 1, math.MaxInt}
	anyInt := func() int {
		if r.Intn(40) == 0 {
			return wild[r.Intn(len(wild))]
		}
		return r.Intn(pick(r, 2, 3, 9, 100))
	}
	anyCount := func(most int) int { return pick(r, 0, 1, 1, 2, 2, 3, r.Intn(most+2), r.Intn(most+1)) }
	seen := map[string]int{}
	for range 20_000 {
		h := api.House{Head: anyInt(), Drip: anyInt()}
		for range anyCount(api.MaxTaps) {
			lo := anyInt()
			h.Taps = append(h.Taps, tap(lo, pick(r, lo, anyInt()), anyInt()))
		}
		for range anyCount(api.MaxRules) {
			h.Rules = append(h.Rules, rule(pick(r, anyInt(), r.Intn(2)), anyInt()%20))
		}
		var l []api.Size
		for i := range anyCount(api.MaxSizes) {
			l = append(l, meter(anyInt()%3, pick(r, 100*i+3, 100*i+3, 100*i+3, anyInt()), anyInt(), anyInt()))
		}
		s := meter(anyInt(), anyInt(), anyInt(), anyInt())
		flow, peak, e1 := size.Peak(h)
		starved, pressure, e2 := size.Starved(h, s)
		chosen, e3 := size.Choose(h, l)
		small, great, price, e4 := size.Pair(h, l)
		full, e5 := size.Least(h, anyInt())
		for name, is := range map[string]struct {
			e    api.Errno
			zero bool
		}{
			"Peak":    {e1, flow == api.Span{} && peak == 0},
			"Starved": {e2, starved == 0 && !pressure},
			"Choose":  {e3, chosen == 0},
			"Pair":    {e4, small == 0 && great == 0 && price == 0},
			"Least":   {e5, full == 0},
		} {
			if is.e == api.OK {
				seen[name]++
			} else if !is.zero {
				t.Fatal(name, h, l, s, "has the error", is.e, "and a result")
			}
		}
	}
	for _, name := range []string{"Peak", "Starved", "Choose", "Pair", "Least"} {
		if seen[name] < 200 {
			t.Error("too few arguments are valid", name, seen)
		}
	}
}
