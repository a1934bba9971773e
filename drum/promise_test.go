package drum_test

import (
	"math/rand"
	"slices"
	"testing"

	"meterworks/api"
	"meterworks/drum"
)

// P2.1 and P2.2 of registers of all sizes, against the words of the document.
func TestRunAgainstTheWords(t *testing.T) {
	rnd := rand.New(rand.NewSource(1))
	for range 20_000 {
		r := anyRegister(rnd)
		runs := anyRuns(rnd, api.MaxRuns, []int{2000, 100_000, api.MaxRun}[rnd.Intn(3)])
		total := r.Start
		for _, run := range runs {
			total += run
		}
		total = floorMod(total, turnOf(r.Drums))
		checkRun(t, "any runs", r, runs, total, figuresOf(r.Drums, total), api.OK)
		checkPlaces(t, "any total", r, total, placesOf(r.Drums, total), api.OK)
	}
}

// P2.4 against each number at which a contact can close.
func TestPulsesAgainstEachNumber(t *testing.T) {
	rnd := rand.New(rand.NewSource(2))
	bounced, none := 0, 0
	for range 4000 {
		r := anyRegister(rnd)
		at := rnd.Intn(10_000)
		runs := anyRuns(rnd, 8, []int{50, 3000, 25_000}[rnd.Intn(3)])
		if rnd.Intn(2) == 0 { // so that the first drum is turned about the place
			r.Start = floorMod(r.Start-r.Start%10_000+at+rnd.Intn(5)-2, turnOf(r.Drums))
		}
		counted, all := pulsesOf(r.Start, runs, at)
		checkPulses(t, "any runs", r, runs, at, counted, all, api.OK)
		if counted < all {
			bounced++
		}
		if all == 0 {
			none++
		}
	}
	if bounced < 500 || none < 100 {
		t.Error("the runs are too much alike", bounced, none)
	}
}

// anyReading returns figures that a register can show, or any other ones.
func anyReading(rnd *rand.Rand) []int {
	r := anyRegister(rnd)
	figures := figuresOf(r.Drums, r.Start)
	if rnd.Intn(3) == 0 {
		for k := range figures {
			figures[k] = []int{0, 0, 9, 9, rnd.Intn(10)}[rnd.Intn(5)]
		}
	}
	return figures
}

func anyBound(rnd *rand.Rand) int { return []int{0, 499, 500, 999, rnd.Intn(1000)}[rnd.Intn(5)] }

// P2.3: spans rise, none is next to another one, all ends stand within, and what is next to an end does not.
func TestSpans(t *testing.T) {
	rnd := rand.New(rand.NewSource(3))
	for range 5000 {
		figures, within := anyReading(rnd), anyBound(rnd)
		got, e := drum.Fit(figures, within)
		if e != api.OK {
			t.Fatalf("Fit of %v within %d returns %d", figures, within, e)
		}
		turn := turnOf(len(figures))
		for i, s := range got {
			if s.Lo > s.Hi || s.Lo < 0 || s.Hi >= turn || i > 0 && s.Lo <= got[i-1].Hi+1 {
				t.Fatalf("Fit of %v within %d returns %v", figures, within, got)
			}
			inside := stands(figures, within, s.Lo) && stands(figures, within, s.Hi) && stands(figures, within, s.Lo+rnd.Intn(s.Hi-s.Lo+1))
			outside := s.Lo > 0 && stands(figures, within, s.Lo-1) || s.Hi < turn-1 && stands(figures, within, s.Hi+1)
			if !inside || outside {
				t.Fatalf("Fit of %v within %d returns %v, but the span %v is not just so", figures, within, got, s)
			}
		}
	}
}

// P2.6: a total is told if, and only if, each drum stands within so many thousandths of what was read there.
func TestTotalsAreTold(t *testing.T) {
	rnd := rand.New(rand.NewSource(4))
	told := 0
	for range 20_000 {
		r := anyRegister(rnd)
		within := anyBound(rnd)
		figures := figuresOf(r.Drums, r.Start)
		for k := range figures {
			if near := (placeOf(k, r.Start)/1000 + rnd.Intn(2)) % 10; rnd.Intn(4) > 0 {
				figures[k] = near
			}
		}
		got, e := drum.Fit(figures, within)
		want := stands(figures, within, r.Start)
		if e != api.OK || contains(got, r.Start) != want {
			t.Fatalf("Fit of %v within %d returns %v, %d; the total is %d", figures, within, got, e, r.Start)
		}
		if want {
			told++
		}
	}
	if told < 2000 {
		t.Error("the readings are too far off", told)
	}
}

// P2.3: where each drum stands just at its figure is a total of every reading, so that ErrNone never comes.
func TestEachReadingHasATotal(t *testing.T) {
	for drums := 1; drums <= api.MaxDrums; drums++ {
		figures := make([]int, drums)
		step := max(1, turnOf(drums)/1000/5000)
		for n := 0; n < turnOf(drums)/1000; n += step {
			left := n
			for k := range figures {
				figures[k] = left % 10
				left /= 10
			}
			checkFit(t, "within 0", figures, 0, spans(1000*n, 1000*n), api.OK)
			if got, e := drum.Fit(figures, 999); e != api.OK || !contains(got, 1000*n) {
				t.Fatalf("Fit of %v within 999 returns %v, %d", figures, got, e)
			}
		}
	}
}

// P2.6: what a register shows after any runs fits its total, within 500.
func TestWhatIsShownFits(t *testing.T) {
	rnd := rand.New(rand.NewSource(5))
	for range 5000 {
		r, runs := anyRegister(rnd), anyRuns(rnd, api.MaxRuns, []int{2000, api.MaxRun}[rnd.Intn(2)])
		total, figures, e := drum.Run(r, runs)
		if e != api.OK {
			t.Fatal(r, runs, e)
		}
		if got, e := drum.Fit(figures, 500); e != api.OK || !contains(got, total) {
			t.Fatalf("%v after %v is at %d and shows %v, for which Fit returns %v, %d", r, runs, total, figures, got, e)
		}
	}
}

// P2.6: wider bounds tell no less.
func TestWiderBounds(t *testing.T) {
	rnd := rand.New(rand.NewSource(6))
	for range 5000 {
		figures, within := anyReading(rnd), rnd.Intn(1000)
		narrow, _ := drum.Fit(figures, within)
		wide, _ := drum.Fit(figures, within+rnd.Intn(1000-within))
		for _, s := range narrow {
			if !slices.ContainsFunc(wide, func(w api.Span) bool { return w.Lo <= s.Lo && s.Hi <= w.Hi }) {
				t.Fatalf("%v within %d: %v, and with a wider bound %v", figures, within, narrow, wide)
			}
		}
	}
}

// P2.6 and P11: runs can be put together and come in any order; a run and the same run back leave the total.
func TestRunsPutTogether(t *testing.T) {
	rnd := rand.New(rand.NewSource(7))
	for range 5000 {
		r, runs := anyRegister(rnd), anyRuns(rnd, api.MaxRuns, api.MaxRun/api.MaxRuns)
		total, figures, e := drum.Run(r, runs)
		sum := 0
		for _, run := range runs {
			sum += run
		}
		checkRun(t, "one run", r, []int{sum}, total, figures, e)
		split := rnd.Intn(len(runs) + 1)
		half, _, _ := drum.Run(r, runs[:split])
		checkRun(t, "one part after the other", register(r.Drums, half), runs[split:], total, figures, e)
		mixed := slices.Clone(runs)
		rnd.Shuffle(len(mixed), func(i, j int) { mixed[i], mixed[j] = mixed[j], mixed[i] })
		checkRun(t, "in another order", r, mixed, total, figures, e)
		run := rnd.Intn(2*api.MaxRun) - api.MaxRun
		checkRun(t, "there and back", r, []int{run, -run}, r.Start, figuresOf(r.Drums, r.Start), api.OK)
	}
}

// P2.6: runs of which none is below 0 have no bounces, and as many pulses as the first drum has passed the place, however they are cut.
func TestForwardRunsDoNotBounce(t *testing.T) {
	rnd := rand.New(rand.NewSource(8))
	for range 5000 {
		r, at := anyRegister(rnd), rnd.Intn(10_000)
		runs, sum := anyRuns(rnd, api.MaxRuns, []int{300, 30_000, api.MaxRun / api.MaxRuns}[rnd.Intn(3)]), 0
		for i, run := range runs {
			runs[i] = max(run, -run)
			sum += runs[i]
		}
		passed := (r.Start+sum-at+10_000)/10_000 - (r.Start-at+10_000)/10_000
		checkPulses(t, "forward runs", r, runs, at, passed, passed, api.OK)
		checkPulses(t, "one run", r, []int{sum}, at, passed, passed, api.OK)
	}
}

// P2.5: arguments stay as they are, and results share no memory.
func TestArgumentsAreOnlyRead(t *testing.T) {
	runs := append(make([]int, 0, 64), 5010, -20, 20)
	figures := append(make([]int, 0, 64), 0, 0, 2)
	runsBefore, figuresBefore := slices.Clone(runs[:64]), slices.Clone(figures[:64])
	r := register(3, 199_500)
	places, _ := drum.Places(r, 199_500)
	_, shown, _ := drum.Run(r, runs)
	drum.Pulses(r, runs, 5000)
	fits, _ := drum.Fit(figures, 600)
	placesBefore, shownBefore, fitsBefore := slices.Clone(places), slices.Clone(shown), slices.Clone(fits)
	if !slices.Equal(runs[:64], runsBefore) || !slices.Equal(figures[:64], figuresBefore) {
		t.Fatal("an argument was changed", runs[:64], figures[:64])
	}
	again, _ := drum.Places(r, 199_500)
	_, shownAgain, _ := drum.Run(r, runs)
	fitsAgain, _ := drum.Fit(figures, 600)
	clear(again)
	clear(shownAgain)
	clear(fitsAgain)
	clear(runs)
	clear(figures)
	if !slices.Equal(places, placesBefore) || !slices.Equal(shown, shownBefore) || !slices.Equal(fits, fitsBefore) {
		t.Error("a result shares memory", places, shown, fits)
	}
}
