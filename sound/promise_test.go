package sound_test

import (
	"math/rand"
	"slices"
	"testing"

	"meterworks/api"
	"meterworks/sound"
)

// counters say how often what was seen.
type counters map[string]int

func (c counters) see(what string, is bool) {
	if is {
		c[what]++
	}
}

// check checks that all was seen often enough.
func (c counters) check(t *testing.T, least int, all ...string) {
	t.Helper()
	for _, what := range all {
		if c[what] < least {
			t.Error("the lines are too much alike:", what, c)
		}
	}
}

// The oracle counts decimetres of pipes at once: here they are counted one by one.
func TestOracle(t *testing.T) {
	r := rand.New(rand.NewSource(1))
	for range 2000 {
		l := anyLine(r, small)
		var pipes []int
		for i, p := range l {
			pipes = append(pipes, slices.Repeat([]int{i}, p.Length)...)
		}
		from, to := someEars(r, l)
		at := aPlace(r, l)
		want := make([]int, len(l))
		for place, i := range pipes {
			if place >= min(at, from) && place < max(at, from) {
				want[i]++
			}
			if place >= min(at, to) && place < max(at, to) {
				want[i]--
			}
		}
		if got := counts(l, from, to, at); !slices.Equal(got, want) {
			t.Fatal("the counts of", l, from, to, at, "are", got, "and not", want)
		}
	}
}

// checkAllPlaces checks Lag at all places of a line, and Where, against all places and some truths.
func checkAllPlaces(t *testing.T, l []api.Pipe, hearings []api.Hearing, truths [][]int, seen counters) {
	t.Helper()
	for _, h := range hearings {
		for at := range total(l) + 1 {
			checkLag(t, l, h.From, h.To, at, lagsOf(counts(l, h.From, h.To, at), truths), api.OK)
		}
	}
	want, e := where(l, hearings, truths)
	checkWhere(t, l, hearings, want, e)
	seen.see("no place", e == api.ErrNone)
	seen.see("one stretch", len(want) == 1)
	seen.see("two stretches", len(want) == 2)
	seen.see("not the first pipe", len(want) > 0 && want[0].Pipe > 0)
	seen.see("not the last pipe", len(want) > 0 && want[len(want)-1].Pipe < len(l)-1)
	seen.see("one place", len(want) == 1 && want[0].From == want[0].To)
	seen.see("where two pipes meet", len(want) > 1 && want[0].From == l[want[0].Pipe].Length)
}

var allKinds = []string{"no place", "one stretch", "two stretches", "not the first pipe", "not the last pipe", "one place", "where two pipes meet"}

// P11.1 and P11.2: against all places, and all truths of whole numbers, of small lines.
func TestSmallLines(t *testing.T) {
	r := rand.New(rand.NewSource(2))
	seen := counters{}
	for range 20_000 {
		l := anyLine(r, small)
		checkAllPlaces(t, l, anyHearings(r, l, 3, 6), wholes(l), seen)
		if t.Failed() {
			return
		}
	}
	seen.check(t, 100, allKinds...)
}

// P11.1 and P11.2: against all places of lines that are not so small, and all truths of their ends.
func TestMiddleLines(t *testing.T) {
	r := rand.New(rand.NewSource(3))
	seen := counters{}
	for range 1500 {
		l := anyLine(r, middle)
		checkAllPlaces(t, l, anyHearings(r, l, 3, 5000), corners(l), seen)
		if t.Failed() {
			return
		}
	}
	seen.check(t, 5, allKinds...)
}

// somePlaces returns places of a line: those where pipes meet, those of ears, and others, each with its neighbours.
func somePlaces(r *rand.Rand, l []api.Pipe, hearings []api.Hearing, more ...int) []int {
	begin := 0
	for _, p := range l {
		more = append(more, begin, begin+p.Length, begin+r.Intn(p.Length))
		begin += p.Length
	}
	for _, h := range hearings {
		more = append(more, h.From, h.To, h.From+r.Intn(h.To-h.From+1))
	}
	var out []int
	for _, n := range more {
		for place := max(0, n-1); place <= min(begin, n+1); place++ {
			out = append(out, place)
		}
	}
	return out
}

// P11.1 and P11.2: against some places of lines of any numbers, those at the ends of stretches among them.
func TestGreatLines(t *testing.T) {
	r := rand.New(rand.NewSource(4))
	seen := counters{}
	for range 400 {
		l := anyLine(r, great)
		truths := corners(l)
		hearings := anyHearings(r, l, pick(r, 1, 2, api.MaxHearings), pick(r, 1000, 100_000_000))
		got, e := sound.Where(l, hearings)
		first, last := -1, -1
		if e == api.OK {
			first, last = placesOf(l, got)
		}
		for _, at := range somePlaces(r, l, hearings, first, last) {
			if is := allAllow(l, hearings, at, truths); is != (at >= first && at <= last && first >= 0) {
				t.Fatal("Where", l, hearings, "is", got, e, "and the place", at, is)
			}
			if len(hearings) > 0 {
				h := hearings[0]
				checkLag(t, l, h.From, h.To, at, lagsOf(counts(l, h.From, h.To, at), truths), api.OK)
			}
		}
		seen.see("no place", e == api.ErrNone)
		seen.see("few places", e == api.OK && last-first < total(l)/4)
		seen.see("many places", e == api.OK && last-first >= total(l)/4)
	}
	seen.check(t, 20, "no place", "few places", "many places")
}

// placesOf returns the first and the last place of stretches.
func placesOf(l []api.Pipe, s []api.Stretch) (first, last int) {
	begins := []int{0}
	for _, p := range l {
		begins = append(begins, begins[len(begins)-1]+p.Length)
	}
	z := s[len(s)-1]
	return begins[s[0].Pipe] + s[0].From, begins[z.Pipe] + z.To
}

// P11.3: against the truths at which numbers are least and greatest.
func TestTuneOfLines(t *testing.T) {
	r := rand.New(rand.NewSource(5))
	for _, c := range []struct {
		kind
		times, wide, least int
	}{{kind{3, 5, 8, 9}, 10_000, 6, 100}, {middle, 1500, 3000, 30}, {kind{4, api.MaxLength, api.MaxSlow, api.MaxSlow}, 1000, 10_000_000, 30}, {great, 80, 100_000_000, 5}} {
		seen := counters{}
		for range c.times {
			l := anyLine(r, c.kind)
			at, h := aPlace(r, l), anyHearing(r, l, c.wide)
			if r.Intn(3) > 0 {
				h = trueHearing(r, l, someTruth(r, l), at, pick(r, 0, c.wide))
			}
			want, e := tune(l, at, h)
			checkTune(t, l, at, h, want, e)
			if t.Failed() {
				return
			}
			seen.see("no truth", e == api.ErrState)
			narrower := 0
			for i, s := range want {
				if s != l[i].Slow {
					narrower++
				}
			}
			seen.see("nothing narrower", e == api.OK && narrower == 0)
			seen.see("one narrower", narrower == 1)
			seen.see("several narrower", narrower > 1)
		}
		seen.check(t, c.least, "no truth", "nothing narrower", "one narrower", "several narrower")
	}
}

// isOn reports whether a place is on one of some stretches.
func isOn(l []api.Pipe, s []api.Stretch, at int) bool {
	begin := 0
	for i, p := range l {
		if slices.ContainsFunc(s, func(x api.Stretch) bool { return x.Pipe == i && at >= begin+x.From && at <= begin+x.To }) {
			return true
		}
		begin += p.Length
	}
	return false
}

// P3, P8 and P11.4: wherever the leak is, and whatever the truth, the leak is on a stretch, and its lag within Lag.
func TestTheTrueLeak(t *testing.T) {
	r := rand.New(rand.NewSource(6))
	seen := counters{}
	for range 6000 {
		l := anyLine(r, pick(r, small, middle, great))
		x, at := someTruth(r, l), aPlace(r, l)
		var hearings []api.Hearing
		for range r.Intn(api.MaxHearings + 1) {
			h := trueHearing(r, l, x, at, pick(r, 0, 5, 5000))
			lags, e := sound.Lag(l, h.From, h.To, at)
			if lag := x.lag(counts(l, h.From, h.To, at)); e != api.OK || !isWithin(lag, lags) {
				t.Fatal("Lag", l, h, at, "is", lags, e, "and not", lag)
			}
			hearings = append(hearings, h)
		}
		s, e := sound.Where(l, hearings)
		if e != api.OK || !isOn(l, s, at) {
			t.Fatal("Where", l, hearings, "is", s, e, "and the leak is at", at)
		}
		first, last := placesOf(l, s)
		seen.see("one place", first == last)
		seen.see("several places", first < last && last-first < total(l))
		seen.see("all places", last-first == total(l))
	}
	seen.check(t, 100, "one place", "several places", "all places")
}

// P11.4: with one hearing, for each end of the stretches there is a truth in which the leak is there, and beyond them there is none.
// Where a pipe ends within them the next one begins.
func TestEndsOfStretches(t *testing.T) {
	r := rand.New(rand.NewSource(7))
	ends := 0
	for range 6000 {
		l := anyLine(r, pick(r, small, middle, kind{4, api.MaxLength, api.MaxSlow, api.MaxSlow}))
		h := anyHearing(r, l, pick(r, 5, 5000))
		s, e := sound.Where(l, []api.Hearing{h})
		if e != api.OK {
			continue
		}
		begin, next := 0, 0
		for i, p := range l {
			if next == len(s) || s[next].Pipe != i {
				begin += p.Length
				continue
			}
			x := s[next]
			next++
			if x.From < 0 || x.From > x.To || x.To > p.Length || next < len(s) && (x.To != p.Length || s[next] != stretch(i+1, 0, s[next].To)) {
				t.Fatal("Where", l, h, "is", s)
			}
			for _, at := range [2]int{begin + x.From, begin + x.To} {
				w := witness(l, h, at)
				if w == nil || !w.isOf(l) || !isWithin(w.lag(counts(l, h.From, h.To, at)), h.Lag) {
					t.Fatal("Where", l, h, "is", s, "and there is no truth with the leak at", at)
				}
				ends++
			}
			begin += p.Length
		}
		first, last := placesOf(l, s)
		for _, at := range [2]int{first - 1, last + 1} {
			if at >= 0 && at <= begin && witness(l, h, at) != nil {
				t.Fatal("Where", l, h, "is", s, "and there is a truth with the leak at", at)
			}
		}
		if next != len(s) {
			t.Fatal("Where", l, h, "is", s)
		}
	}
	if ends < 5000 {
		t.Error("too few stretches", ends)
	}
}

// P11.4: both ends of what Lag says are those of a truth.
func TestEndsOfLags(t *testing.T) {
	r := rand.New(rand.NewSource(8))
	for range 3000 {
		l := anyLine(r, pick(r, small, middle, great))
		from, to := someEars(r, l)
		at := aPlace(r, l)
		s, e := sound.Lag(l, from, to, at)
		c := counts(l, from, to, at)
		var lags []int
		for _, x := range corners(l) {
			lags = append(lags, lagOf(c, x))
		}
		if e != api.OK || !slices.Contains(lags, s.Lo) || !slices.Contains(lags, s.Hi) {
			t.Fatal("Lag", l, from, to, at, "is", s, e, "and an end is that of no truth")
		}
	}
}

// tuned returns a line with other numbers.
func tuned(l []api.Pipe, slow []api.Span) []api.Pipe {
	out := slices.Clone(l)
	for i, s := range slow {
		out[i].Slow = s
	}
	return out
}

// places returns the first and the last place that hearings allow; 0 and -1: there are none.
func places(t *testing.T, l []api.Pipe, h []api.Hearing) api.Span {
	t.Helper()
	s, e := sound.Where(l, h)
	if e == api.ErrNone {
		return span(0, -1)
	}
	if e != api.OK {
		t.Fatal("Where", l, h, "has the error", e)
	}
	return span(placesOf(l, s))
}

// isPart reports whether all numbers of a span, if there are any, are in another one.
func isPart(s, of api.Span) bool { return s.Lo > s.Hi || s.Lo >= of.Lo && s.Hi <= of.Hi }

// P11.5: the true numbers are within the spans of Tune, these within their Slow, and with them no more places are allowed.
func TestTuned(t *testing.T) {
	r := rand.New(rand.NewSource(9))
	seen := counters{}
	for range 6000 {
		l := anyLine(r, pick(r, small, middle, great))
		x, at, wide := someTruth(r, l), aPlace(r, l), pick(r, 0, 5, 5000, 1_000_000)
		h := trueHearing(r, l, x, at, wide)
		slow, e := sound.Tune(l, at, h)
		if e != api.OK || len(slow) != len(l) {
			t.Fatal("Tune", l, at, h, "is", slow, e)
		}
		for i, s := range slow {
			if !isWithin(x[i], s) || s.Lo > s.Hi || !isPart(s, l[i].Slow) {
				t.Fatal("Tune", l, at, h, "is", slow, "and the pipe", i, "has", x[i])
			}
			seen.see("narrower", s != l[i].Slow)
		}
		hearings := append(anyHearings(r, l, 2, wide), trueHearing(r, l, x, aPlace(r, l), wide))
		was, now := places(t, l, hearings), places(t, tuned(l, slow), hearings)
		if !isPart(now, was) {
			t.Fatal("Where", l, hearings, "is", was, "and tuned by", slow, now)
		}
		seen.see("fewer places", now != was)
	}
	seen.check(t, 100, "narrower", "fewer places")
}

// narrower returns a span within another one.
func narrower(r *rand.Rand, s api.Span) api.Span {
	lo := s.Lo + r.Intn(s.Hi-s.Lo+1)
	return span(lo, lo+r.Intn(s.Hi-lo+1))
}

// P11.6: with one hearing more, a narrower Lag, or a narrower Slow, there are no more places.
func TestMore(t *testing.T) {
	r := rand.New(rand.NewSource(10))
	seen := counters{}
	for range 6000 {
		l := anyLine(r, pick(r, small, middle, great))
		hearings := anyHearings(r, l, 3, pick(r, 5, 5000))
		was := places(t, l, hearings)
		check := func(what string, l []api.Pipe, h []api.Hearing) {
			now := places(t, l, h)
			if !isPart(now, was) {
				t.Fatal("Where", l, h, "is", now, "and was", was, what)
			}
			seen.see(what, now != was)
		}
		check("one more", l, slices.Insert(slices.Clone(hearings), r.Intn(len(hearings)+1), anyHearing(r, l, 5)))
		i := r.Intn(len(l))
		slow := slices.Clone(l)
		slow[i].Slow = narrower(r, l[i].Slow)
		check("a narrower Slow", slow, hearings)
		if len(hearings) > 0 {
			i := r.Intn(len(hearings))
			lag := slices.Clone(hearings)
			lag[i].Lag = narrower(r, lag[i].Lag)
			check("a narrower Lag", l, lag)
		}
	}
	seen.check(t, 100, "one more", "a narrower Slow", "a narrower Lag")
}

// P11.6: between the ears both ends of the lag grow with each decimetre by at least twice the least Slow of its pipe; elsewhere they stay.
func TestGrowing(t *testing.T) {
	r := rand.New(rand.NewSource(11))
	for range 1000 {
		l := anyLine(r, pick(r, small, middle))
		from, to := someEars(r, l)
		place := 0
		was, _ := sound.Lag(l, from, to, 0)
		for _, p := range l {
			for range p.Length {
				now, e := sound.Lag(l, from, to, place+1)
				least := 0
				if place >= from && place < to {
					least = 2 * p.Slow.Lo
				}
				if e != api.OK || now.Lo < was.Lo+least || now.Hi < was.Hi+least || least == 0 && now != was {
					t.Fatal("Lag", l, from, to, "at", place, "and one farther on is", was, now, e)
				}
				was = now
				place++
			}
		}
	}
}

// turnedHearing returns what is heard with all places turned round.
func turnedHearing(l []api.Pipe, h api.Hearing) api.Hearing {
	return hearing(total(l)-h.To, total(l)-h.From, -h.Lag.Hi, -h.Lag.Lo)
}

func turned[T any](l []T) []T {
	out := slices.Clone(l)
	slices.Reverse(out)
	return out
}

// P11.6: heard from the other end, the line has the same stretches, lags and numbers, turned round.
func TestTurnedRound(t *testing.T) {
	r := rand.New(rand.NewSource(12))
	for range 5000 {
		l := anyLine(r, pick(r, small, middle, great))
		back := turned(l)
		hearings := anyHearings(r, l, 3, pick(r, 5, 5000))
		var others []api.Hearing
		for _, h := range hearings {
			others = append(others, turnedHearing(l, h))
		}
		s, e := sound.Where(l, hearings)
		want := turned(s)
		for i, x := range want {
			length := l[x.Pipe].Length
			want[i] = stretch(len(l)-1-x.Pipe, length-x.To, length-x.From)
		}
		checkWhere(t, back, others, want, e)
		h, at := anyHearing(r, l, 5), aPlace(r, l)
		lags, e := sound.Lag(l, h.From, h.To, at)
		checkLag(t, back, total(l)-h.To, total(l)-h.From, total(l)-at, span(-lags.Hi, -lags.Lo), e)
		slow, e := sound.Tune(l, at, h)
		checkTune(t, back, total(l)-at, turnedHearing(l, h), turned(slow), e)
		if t.Failed() {
			return
		}
	}
}

// P11.6 and P11: the order of hearings makes no difference, nor does one that is there twice.
func TestOrder(t *testing.T) {
	r := rand.New(rand.NewSource(13))
	for range 3000 {
		l := anyLine(r, pick(r, small, middle, great))
		hearings := anyHearings(r, l, api.MaxHearings-1, pick(r, 100, 5000, 50_000_000))
		s, e := sound.Where(l, hearings)
		other := slices.Clone(hearings)
		if len(other) > 0 {
			other = append(other, pick(r, other...))
		}
		r.Shuffle(len(other), func(i, k int) { other[i], other[k] = other[k], other[i] })
		checkWhere(t, l, other, s, e)
		if t.Failed() {
			return
		}
	}
}
