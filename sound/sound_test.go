package sound_test

import (
	"slices"
	"testing"

	"meterworks/api"
	"meterworks/sound"
)

func span(lo, hi int) api.Span { return api.Span{Lo: lo, Hi: hi} }

func just(n int) api.Span { return span(n, n) }

func pipe(length, lo, hi int) api.Pipe { return api.Pipe{Length: length, Slow: span(lo, hi)} }

func hearing(from, to, lo, hi int) api.Hearing {
	return api.Hearing{From: from, To: to, Lag: span(lo, hi)}
}

func stretch(pipe, from, to int) api.Stretch { return api.Stretch{Pipe: pipe, From: from, To: to} }

// example is the line of the chapter.
func example() []api.Pipe { return []api.Pipe{pipe(100, 8, 10), pipe(50, 5, 5)} }

// three is a line whose pipe in the middle is the shortest.
func three() []api.Pipe { return []api.Pipe{pipe(20, 3, 4), pipe(10, 7, 9), pipe(30, 1, 6)} }

func checkLag(t *testing.T, l []api.Pipe, from, to, at int, want api.Span, e api.Errno) {
	t.Helper()
	if got, f := sound.Lag(l, from, to, at); got != want || f != e {
		t.Error("Lag", l, from, to, at, "is", got, f, "and not", want, e)
	}
}

func checkWhere(t *testing.T, l []api.Pipe, h []api.Hearing, want []api.Stretch, e api.Errno) {
	t.Helper()
	if got, f := sound.Where(l, h); !slices.Equal(got, want) || f != e {
		t.Error("Where", l, h, "is", got, f, "and not", want, e)
	}
}

func checkTune(t *testing.T, l []api.Pipe, at int, h api.Hearing, want []api.Span, e api.Errno) {
	t.Helper()
	if got, f := sound.Tune(l, at, h); !slices.Equal(got, want) || f != e {
		t.Error("Tune", l, at, h, "is", got, f, "and not", want, e)
	}
}

// The examples of the chapter.
func TestExamples(t *testing.T) {
	l := example()
	checkLag(t, l, 0, 150, 100, span(550, 750), api.OK)
	checkLag(t, l, 0, 150, 50, span(-250, -250), api.OK)
	checkLag(t, l, 0, 150, 0, span(-1250, -1050), api.OK)
	checkLag(t, l, 0, 150, 120, span(750, 950), api.OK)
	checkWhere(t, l, []api.Hearing{hearing(0, 150, 0, 100)}, []api.Stretch{stretch(0, 63, 71)}, api.OK)
	checkWhere(t, l, []api.Hearing{hearing(0, 150, 700, 800)}, []api.Stretch{stretch(0, 98, 100), stretch(1, 0, 25)}, api.OK)
	checkWhere(t, l, []api.Hearing{hearing(0, 150, 2000, 2100)}, nil, api.ErrNone)
	checkTune(t, l, 100, hearing(0, 150, 600, 650), []api.Span{span(8, 9), span(5, 5)}, api.OK)
	checkTune(t, l, 100, hearing(0, 150, 800, 900), nil, api.ErrState)
	checkLag(t, l, 20, 60, 10, span(-400, -320), api.OK)
	checkLag(t, l, 20, 60, 40, span(0, 0), api.OK)
	checkLag(t, l, 20, 60, 150, span(320, 400), api.OK)
}

// P11.1: noises before the ears, at them, between them and beyond them, in one pipe and in several.
func TestLag(t *testing.T) {
	for _, c := range []struct {
		l            []api.Pipe
		from, to, at int
		want         api.Span
	}{
		{[]api.Pipe{pipe(1, 1, 1)}, 0, 1, 0, just(-1)},
		{[]api.Pipe{pipe(1, 1, 1)}, 0, 1, 1, just(1)},
		{[]api.Pipe{pipe(1, 2, 5)}, 0, 1, 0, span(-5, -2)},
		{[]api.Pipe{pipe(1, 2, 5)}, 0, 1, 1, span(2, 5)},
		{[]api.Pipe{pipe(2, 2, 5)}, 0, 2, 1, just(0)},
		{[]api.Pipe{pipe(9, 2, 5)}, 3, 7, 4, span(-10, -4)},
		{[]api.Pipe{pipe(9, 2, 5)}, 3, 7, 5, just(0)},
		{[]api.Pipe{pipe(9, 2, 5)}, 3, 7, 6, span(4, 10)},
		{[]api.Pipe{pipe(9, 2, 5)}, 3, 7, 0, span(-20, -8)},
		{[]api.Pipe{pipe(9, 2, 5)}, 3, 7, 2, span(-20, -8)},
		{[]api.Pipe{pipe(9, 2, 5)}, 3, 7, 3, span(-20, -8)},
		{[]api.Pipe{pipe(9, 2, 5)}, 3, 7, 7, span(8, 20)},
		{[]api.Pipe{pipe(9, 2, 5)}, 3, 7, 8, span(8, 20)},
		{[]api.Pipe{pipe(9, 2, 5)}, 3, 7, 9, span(8, 20)},
		{[]api.Pipe{pipe(9, 2, 5)}, 4, 4, 0, just(0)},
		{[]api.Pipe{pipe(9, 2, 5)}, 4, 4, 4, just(0)},
		{[]api.Pipe{pipe(9, 2, 5)}, 4, 4, 9, just(0)},
		{[]api.Pipe{pipe(9, 2, 5)}, 0, 0, 9, just(0)},
		{[]api.Pipe{pipe(9, 2, 5)}, 9, 9, 0, just(0)},
		// In each pipe the lag has its own sign: 20 of 3..4, less 10 of 7..9, less 30 of 1..6.
		{three(), 0, 60, 20, span(60-90-180, 80-70-30)},
		{three(), 0, 60, 30, span(60+70-180, 80+90-30)},
		{three(), 0, 60, 25, span(60-180, 80-30)},
		{three(), 0, 60, 10, span(-90-180, -70-30)},
		{three(), 0, 60, 45, span(60+70, 80+90)},
		{three(), 0, 60, 0, span(-80-90-180, -60-70-30)},
		{three(), 0, 60, 60, span(60+70+30, 80+90+180)},
		{three(), 15, 33, 18, span(3-90-18, 4-70-3)},
		{three(), 15, 33, 1, span(-20-90-18, -15-70-3)},
		{three(), 15, 33, 50, span(15+70+3, 20+90+18)},
		{three(), 15, 33, 31, span(15+70-6, 20+90-1)},
		{three(), 20, 30, 20, span(-90, -70)},
		{three(), 20, 30, 30, span(70, 90)},
		{three(), 20, 30, 3, span(-90, -70)},
		{three(), 20, 30, 59, span(70, 90)},
		{three(), 40, 50, 3, span(-60, -10)},
		{three(), 3, 9, 25, span(18, 24)},
	} {
		checkLag(t, c.l, c.from, c.to, c.at, c.want, api.OK)
	}
}

// P11.2: one hearing.
func TestWhere(t *testing.T) {
	one, all := []api.Pipe{pipe(10, 3, 3)}, []api.Stretch{stretch(0, 0, 10)}
	whole := []api.Stretch{stretch(0, 0, 20), stretch(1, 0, 10), stretch(2, 0, 30)}
	for name, c := range map[string]struct {
		l    []api.Pipe
		h    api.Hearing
		want []api.Stretch
	}{
		"just one place":                     {one, hearing(0, 10, 0, 0), []api.Stretch{stretch(0, 5, 5)}},
		"just reached":                       {one, hearing(0, 10, -6, 6), []api.Stretch{stretch(0, 4, 6)}},
		"just not reached":                   {one, hearing(0, 10, -5, 5), []api.Stretch{stretch(0, 5, 5)}},
		"between two places":                 {one, hearing(0, 10, 1, 5), nil},
		"the first place":                    {one, hearing(0, 10, -40, -30), []api.Stretch{stretch(0, 0, 0)}},
		"before the first place":             {one, hearing(0, 10, -40, -31), nil},
		"the last place":                     {one, hearing(0, 10, 30, 40), []api.Stretch{stretch(0, 10, 10)}},
		"after the last place":               {one, hearing(0, 10, 31, 40), nil},
		"all places":                         {one, hearing(0, 10, -30, 30), all},
		"all places, and more":               {one, hearing(0, 10, -1<<40, 1<<40), all},
		"before the first ear":               {one, hearing(4, 7, -9, -9), []api.Stretch{stretch(0, 0, 4)}},
		"beyond the second ear":              {one, hearing(4, 7, 9, 9), []api.Stretch{stretch(0, 7, 10)}},
		"between the ears":                   {one, hearing(4, 7, -8, 8), []api.Stretch{stretch(0, 5, 6)}},
		"between the ears and before":        {one, hearing(4, 7, -9, 8), []api.Stretch{stretch(0, 0, 6)}},
		"between the ears and beyond":        {one, hearing(4, 7, -8, 9), []api.Stretch{stretch(0, 5, 10)}},
		"before the ears by too much":        {one, hearing(4, 7, -100, -10), nil},
		"beyond the ears by too much":        {one, hearing(4, 7, 10, 100), nil},
		"one place for both ears":            {one, hearing(4, 4, 0, 0), all},
		"one place, and more":                {one, hearing(4, 4, -5, 5), all},
		"one place, and a lag":               {one, hearing(4, 4, 1, 5), nil},
		"one place, and a lag below 0":       {one, hearing(4, 4, -5, -1), nil},
		"both at the first place":            {one, hearing(0, 0, 0, 3), all},
		"both at the last place":             {one, hearing(10, 10, -3, 0), all},
		"an unsure pipe":                     {[]api.Pipe{pipe(10, 2, 4)}, hearing(0, 10, 8, 8), []api.Stretch{stretch(0, 6, 7)}},
		"an unsure pipe, below 0":            {[]api.Pipe{pipe(10, 2, 4)}, hearing(0, 10, -8, -8), []api.Stretch{stretch(0, 3, 4)}},
		"an unsure pipe, at 0":               {[]api.Pipe{pipe(10, 2, 4)}, hearing(0, 10, 0, 0), []api.Stretch{stretch(0, 5, 5)}},
		"no whole number":                    {[]api.Pipe{pipe(10, 2, 4)}, hearing(0, 10, 17, 17), []api.Stretch{stretch(0, 8, 9)}},
		"where two pipes meet":               {three(), hearing(20, 30, -90, -70), []api.Stretch{stretch(0, 0, 20), stretch(1, 0, 1)}},
		"to where two pipes meet":            {three(), hearing(0, 30, -99, -30), []api.Stretch{stretch(0, 6, 20), stretch(1, 0, 0)}},
		"to just before they meet":           {three(), hearing(0, 30, -99, -31), []api.Stretch{stretch(0, 6, 19)}},
		"just where two pipes meet":          {[]api.Pipe{pipe(2, 3, 3), pipe(2, 3, 3)}, hearing(0, 4, 0, 0), []api.Stretch{stretch(0, 2, 2), stretch(1, 0, 0)}},
		"a pipe between":                     {[]api.Pipe{pipe(3, 3, 3), pipe(1, 3, 3), pipe(3, 3, 3)}, hearing(0, 7, -3, 3), []api.Stretch{stretch(0, 3, 3), stretch(1, 0, 1), stretch(2, 0, 0)}},
		"in the last pipe":                   {three(), hearing(30, 60, 0, 20), []api.Stretch{stretch(2, 15, 25)}},
		"from the middle of a pipe on":       {three(), hearing(30, 60, 60, 180), []api.Stretch{stretch(2, 20, 30)}},
		"all pipes":                          {three(), hearing(0, 60, -350, 350), whole},
		"all pipes before the ears":          {three(), hearing(60, 60, 0, 0), whole},
		"all pipes beyond the ears":          {three(), hearing(0, 0, 0, 0), whole},
		"all but the first decimetre":        {[]api.Pipe{pipe(2, 3, 3), pipe(2, 4, 4)}, hearing(0, 4, -8, 14), []api.Stretch{stretch(0, 1, 2), stretch(1, 0, 2)}},
		"all but the last decimetre":         {[]api.Pipe{pipe(2, 3, 3), pipe(2, 4, 4)}, hearing(0, 4, -14, 6), []api.Stretch{stretch(0, 0, 2), stretch(1, 0, 1)}},
		"each pipe with a number of its own": {[]api.Pipe{pipe(5, 1, 9), pipe(5, 1, 9)}, hearing(0, 10, 40, 40), []api.Stretch{stretch(0, 5, 5), stretch(1, 0, 5)}},
	} {
		e := api.OK
		if c.want == nil {
			e = api.ErrNone
		}
		t.Run(name, func(t *testing.T) { checkWhere(t, c.l, []api.Hearing{c.h}, c.want, e) })
	}
}

// P11.2: several hearings, each by itself, and none.
func TestHearings(t *testing.T) {
	l := []api.Pipe{pipe(6, 2, 2), pipe(6, 2, 4)}
	whole := []api.Stretch{stretch(0, 0, 6), stretch(1, 0, 6)}
	checkWhere(t, l, nil, whole, api.OK)
	checkWhere(t, three(), nil, []api.Stretch{stretch(0, 0, 20), stretch(1, 0, 10), stretch(2, 0, 30)}, api.OK)
	checkWhere(t, []api.Pipe{pipe(1, 1, 1)}, nil, []api.Stretch{stretch(0, 0, 1)}, api.OK)
	early, late := hearing(0, 6, -12, 4), hearing(0, 6, -4, 12)
	checkWhere(t, l, []api.Hearing{early}, []api.Stretch{stretch(0, 0, 4)}, api.OK)
	checkWhere(t, l, []api.Hearing{late}, []api.Stretch{stretch(0, 2, 6), stretch(1, 0, 6)}, api.OK)
	checkWhere(t, l, []api.Hearing{early, late}, []api.Stretch{stretch(0, 2, 4)}, api.OK)
	checkWhere(t, l, []api.Hearing{late, early}, []api.Stretch{stretch(0, 2, 4)}, api.OK)
	checkWhere(t, l, []api.Hearing{late, late}, []api.Stretch{stretch(0, 2, 6), stretch(1, 0, 6)}, api.OK)
	beyond, before := hearing(6, 12, -24, -11), hearing(0, 6, 12, 12)
	checkWhere(t, l, []api.Hearing{beyond}, []api.Stretch{stretch(0, 0, 6), stretch(1, 0, 1)}, api.OK)
	checkWhere(t, l, []api.Hearing{before}, []api.Stretch{stretch(0, 6, 6), stretch(1, 0, 6)}, api.OK)
	checkWhere(t, l, []api.Hearing{before, beyond}, []api.Stretch{stretch(0, 6, 6), stretch(1, 0, 1)}, api.OK)
	checkWhere(t, l, []api.Hearing{early, before}, nil, api.ErrNone)
	checkWhere(t, l, []api.Hearing{before, early}, nil, api.ErrNone)
	checkWhere(t, l, []api.Hearing{late, hearing(0, 12, 1000, 1000)}, nil, api.ErrNone)
	// Both hearings allow the places up to 6, though the one needs a slow second pipe, and the other one a fast one.
	slow, fast := hearing(6, 12, -24, -24), hearing(6, 12, -12, -12)
	checkWhere(t, l, []api.Hearing{slow, fast}, []api.Stretch{stretch(0, 0, 6), stretch(1, 0, 0)}, api.OK)
	eight := slices.Repeat([]api.Hearing{late}, api.MaxHearings-1)
	checkWhere(t, l, append(eight, early), []api.Stretch{stretch(0, 2, 4)}, api.OK)
	checkWhere(t, l, append([]api.Hearing{early}, eight...), []api.Stretch{stretch(0, 2, 4)}, api.OK)
}

// P11.3: what is rounded, and what a noise does not tell.
func TestTune(t *testing.T) {
	one, two := []api.Pipe{pipe(10, 2, 9)}, []api.Pipe{pipe(10, 2, 9), pipe(4, 1, 8)}
	for name, c := range map[string]struct {
		l    []api.Pipe
		at   int
		h    api.Hearing
		want []api.Span
	}{
		"just a number":                    {one, 10, hearing(0, 10, 50, 50), []api.Span{just(5)}},
		"just a number, below 0":           {one, 0, hearing(0, 10, -50, -50), []api.Span{just(5)}},
		"no whole number":                  {one, 10, hearing(0, 10, 51, 51), []api.Span{span(5, 6)}},
		"no whole number, by little":       {one, 10, hearing(0, 10, 59, 59), []api.Span{span(5, 6)}},
		"no whole number, below 0":         {one, 0, hearing(0, 10, -51, -51), []api.Span{span(5, 6)}},
		"no whole number, little below 0":  {one, 0, hearing(0, 10, -59, -59), []api.Span{span(5, 6)}},
		"from one number to another":       {one, 10, hearing(0, 10, 39, 61), []api.Span{span(3, 7)}},
		"just not rounded":                 {one, 10, hearing(0, 10, 40, 60), []api.Span{span(4, 6)}},
		"from below 0":                     {one, 0, hearing(0, 10, -61, -39), []api.Span{span(3, 7)}},
		"just not rounded, below 0":        {one, 0, hearing(0, 10, -60, -40), []api.Span{span(4, 6)}},
		"all of its Slow":                  {one, 10, hearing(0, 10, 20, 90), []api.Span{span(2, 9)}},
		"more than its Slow":               {one, 10, hearing(0, 10, -1<<40, 1<<40), []api.Span{span(2, 9)}},
		"the least number":                 {one, 10, hearing(0, 10, 0, 20), []api.Span{just(2)}},
		"less than the least":              {one, 10, hearing(0, 10, 0, 19), nil},
		"the greatest number":              {one, 10, hearing(0, 10, 90, 99), []api.Span{just(9)}},
		"more than the greatest":           {one, 10, hearing(0, 10, 91, 99), nil},
		"beyond an ear":                    {one, 10, hearing(2, 6, 16, 16), []api.Span{just(4)}},
		"before an ear":                    {one, 1, hearing(2, 6, -16, -16), []api.Span{just(4)}},
		"between two ears":                 {one, 5, hearing(2, 6, 8, 8), []api.Span{just(4)}},
		"just between two ears":            {one, 4, hearing(2, 6, 0, 0), []api.Span{span(2, 9)}},
		"just between, and a lag":          {one, 4, hearing(2, 6, 1, 5), nil},
		"one place for both ears":          {one, 4, hearing(6, 6, -3, 0), []api.Span{span(2, 9)}},
		"one place, and a lag":             {one, 4, hearing(6, 6, -3, -1), nil},
		"two pipes that add up":            {two, 14, hearing(0, 14, 24, 24), []api.Span{just(2), just(1)}},
		"two pipes that can add up":        {two, 14, hearing(0, 14, 31, 31), []api.Span{span(2, 3), span(1, 3)}},
		"two pipes, at most":               {two, 14, hearing(0, 14, 122, 1000), []api.Span{just(9), just(8)}},
		"two pipes, one against the other": {two, 10, hearing(0, 14, 0, 0), []api.Span{span(2, 4), span(5, 8)}},
		"two pipes, the first one more":    {two, 10, hearing(0, 14, 50, 51), []api.Span{span(5, 9), span(1, 8)}},
		"two pipes, the first one less":    {two, 10, hearing(0, 14, -12, -11), []api.Span{span(2, 3), span(7, 8)}},
		"a pipe that tells nothing":        {two, 5, hearing(0, 14, -20, -20), []api.Span{span(2, 9), just(5)}},
		"a pipe before the ears":           {two, 14, hearing(10, 14, 10, 13), []api.Span{span(2, 9), span(2, 4)}},
		"a pipe beyond the ears":           {two, 10, hearing(0, 10, 41, 49), []api.Span{span(4, 5), span(1, 8)}},
		"pipes that are known":             {[]api.Pipe{pipe(5, 3, 3), pipe(5, 4, 4)}, 10, hearing(0, 10, 30, 40), []api.Span{just(3), just(4)}},
		"pipes that are known, and wrong":  {[]api.Pipe{pipe(5, 3, 3), pipe(5, 4, 4)}, 10, hearing(0, 10, 36, 40), nil},
	} {
		e := api.OK
		if c.want == nil {
			e = api.ErrState
		}
		t.Run(name, func(t *testing.T) { checkTune(t, c.l, c.at, c.h, c.want, e) })
	}
}
