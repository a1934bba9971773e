package card_test

import (
	"slices"
	"testing"

	"meterworks/api"
	"meterworks/card"
)

func span(lo, hi int) api.Span { return api.Span{Lo: lo, Hi: hi} }

func just(n int) api.Span { return span(n, n) }

func read(house, day, shows int) api.Reading {
	return api.Reading{House: house, Day: day, Shows: shows}
}

// house returns readings of a house: two numbers for each, its Day and what it Shows.
func house(number int, l ...int) []api.Reading {
	var out []api.Reading
	for i := 0; i < len(l); i += 2 {
		out = append(out, read(number, l[i], l[i+1]))
	}
	return out
}

func walk(rates []api.Span, readings ...api.Reading) api.Walk {
	return api.Walk{Rates: rates, Readings: readings}
}

// one returns a walk of one house that takes from 1 to 3 litres in a day.
func one(l ...int) api.Walk { return walk([]api.Span{span(1, 3)}, house(0, l...)...) }

func rates() []api.Span { return []api.Span{span(1, 3), span(5, 10)} }

// example is the walk of the chapter.
func example() api.Walk {
	return walk(rates(), read(0, 10, 100), read(1, 10, 500), read(0, 20, 580), read(1, 20, 120), read(0, 30, 140), read(1, 30, 660))
}

// mended is the walk of the chapter after its repair.
func mended() api.Walk {
	w := example()
	w.Readings[2].Shows, w.Readings[3].Shows = 120, 580
	return w
}

// clone returns a walk that can be changed.
func clone(w api.Walk) api.Walk {
	return walk(slices.Clone(w.Rates), slices.Clone(w.Readings)...)
}

func swap(a, b int) api.Repair { return api.Repair{Kind: api.Swap, A: a, B: b} }

func copied(a int) api.Repair { return api.Repair{Kind: api.Copied, A: a} }

func late(a, least, greatest int) api.Repair {
	return api.Repair{Kind: api.Late, A: a, B: least, C: greatest}
}

func repairs(l ...api.Repair) []api.Repair { return l }

func checkMisfit(t *testing.T, w api.Walk, house, reading int, e api.Errno) {
	t.Helper()
	if h, r, f := card.Misfit(w); h != house || r != reading || f != e {
		t.Error("Misfit", w, "is", h, r, f, "and not", house, reading, e)
	}
}

func checkExplain(t *testing.T, w api.Walk, want []api.Repair, e api.Errno) {
	t.Helper()
	if got, f := card.Explain(w); !slices.Equal(got, want) || f != e {
		t.Error("Explain", w, "is", got, f, "and not", want, e)
	}
}

func checkMend(t *testing.T, w api.Walk, want []api.Reading, e api.Errno) {
	t.Helper()
	if got, f := card.Mend(w); !slices.Equal(got, want) || f != e {
		t.Error("Mend", w, "is", got, f, "and not", want, e)
	}
}

func checkShows(t *testing.T, w api.Walk, house, day int, want api.Span, e api.Errno) {
	t.Helper()
	if got, f := card.Shows(w, house, day); got != want || f != e {
		t.Error("Shows", w, house, day, "is", got, f, "and not", want, e)
	}
}

// checkExplained checks what explains readings that do not fit, and that they are mended where there is just one repair.
func checkExplained(t *testing.T, w api.Walk, want []api.Repair, readings []api.Reading) {
	t.Helper()
	e, f := api.OK, api.OK
	switch {
	case len(want) == 0:
		e, f = api.ErrState, api.ErrState
	case len(want) > 1:
		f = api.ErrDoubt
	}
	checkExplain(t, w, want, e)
	checkMend(t, w, readings, f)
}

// The examples of the chapter.
func TestExamples(t *testing.T) {
	checkMisfit(t, example(), 0, 2, api.OK)
	checkExplain(t, example(), repairs(swap(2, 3)), api.OK)
	checkMend(t, example(), mended().Readings, api.OK)
	checkShows(t, mended(), 0, 15, span(105, 115), api.OK)
	checkShows(t, mended(), 0, 5, span(85, 95), api.OK)
	checkShows(t, mended(), 0, 20, just(120), api.OK)
	checkShows(t, mended(), 0, 32, span(142, 146), api.OK)
	for _, more := range [][]api.Span{nil, {span(5, 10)}} {
		alone := func(l ...int) api.Walk {
			w := one(l...)
			w.Rates = append(w.Rates, more...)
			return w
		}
		checkExplain(t, alone(10, 100, 20, 105, 30, 140), repairs(late(1, 5, 8)), api.OK)
		checkExplain(t, alone(10, 100, 20, 100, 30, 140), repairs(copied(1)), api.OK)
		checkExplain(t, alone(10, 100, 20, 300), nil, api.ErrState)
	}
}

// P12.1: readings that fit.
func TestFit(t *testing.T) {
	for name, w := range map[string]api.Walk{
		"no readings":                  one(),
		"no readings of eight houses":  walk(slices.Repeat(rates(), 4)),
		"one reading":                  one(5, 1000),
		"one reading each":             walk(rates(), read(1, 5, 0), read(0, 5, 1000)),
		"the least":                    one(10, 100, 20, 110),
		"the greatest":                 one(10, 100, 20, 130),
		"the least and the greatest":   one(10, 100, 20, 110, 30, 140, 31, 141),
		"the next day":                 one(10, 100, 11, 103),
		"of the same day":              one(10, 100, 10, 100),
		"three of the same day":        one(10, 100, 10, 100, 10, 100, 11, 101),
		"nothing goes":                 walk([]api.Span{span(0, 0)}, house(0, 10, 100, 20, 100)...),
		"nothing can go":               walk([]api.Span{span(0, 9)}, house(0, 10, 100, 20, 100)...),
		"the later one first":          one(20, 120, 10, 100),
		"in no order":                  one(30, 160, 10, 100, 40, 180, 20, 130, 10, 100),
		"the mended example":           mended(),
		"each by its own Rate":         walk(rates(), read(0, 10, 100), read(1, 10, 100), read(0, 11, 103), read(1, 11, 105)),
		"houses that are not together": walk([]api.Span{span(1, 3), span(1, 3)}, read(0, 10, 100), read(1, 10, 900), read(1, 11, 901), read(0, 11, 101)),
	} {
		t.Run(name, func(t *testing.T) {
			checkMisfit(t, w, 0, 0, api.ErrNone)
			checkExplain(t, w, nil, api.ErrNone)
			checkMend(t, w, nil, api.ErrNone)
		})
	}
}

// P12.1: which house it is, and which reading.
func TestMisfit(t *testing.T) {
	for name, c := range map[string]struct {
		w              api.Walk
		house, reading int
	}{
		"too little":                           {one(10, 100, 20, 109), 0, 1},
		"too much":                             {one(10, 100, 20, 131), 0, 1},
		"nothing":                              {one(10, 100, 20, 100), 0, 1},
		"back":                                 {one(10, 100, 20, 80), 0, 1},
		"too little on the next day":           {one(10, 100, 11, 100), 0, 1},
		"too much on the next day":             {one(10, 100, 11, 104), 0, 1},
		"more on the same day":                 {one(10, 100, 10, 101), 0, 1},
		"less on the same day":                 {one(10, 100, 10, 99), 0, 1},
		"the same day, by numbers":             {one(9, 99, 10, 101, 10, 100), 0, 2},
		"the later one first":                  {one(20, 131, 10, 100), 0, 0},
		"the last one of all":                  {one(10, 100, 20, 120, 30, 140, 40, 200), 0, 3},
		"the first one by days":                {one(40, 500, 30, 300, 10, 100, 20, 120), 0, 1},
		"only the one before it counts":        {one(10, 100, 20, 500, 30, 140), 0, 1},
		"after one that was too little":        {one(10, 100, 20, 20, 30, 140), 0, 1},
		"none goes":                            {walk([]api.Span{span(0, 0)}, house(0, 10, 100, 20, 101)...), 0, 1},
		"the first house":                      {walk(rates(), read(1, 10, 0), read(1, 11, 0), read(0, 20, 5), read(0, 21, 5)), 0, 3},
		"the second house":                     {walk(rates(), read(0, 10, 0), read(1, 10, 0), read(0, 11, 3), read(1, 11, 3)), 1, 3},
		"by the Rate of its house":             {walk(rates(), read(1, 10, 0), read(0, 10, 0), read(1, 11, 10), read(0, 11, 10)), 0, 3},
		"a house after one without readings":   {walk([]api.Span{span(1, 3), span(1, 3), span(0, 1)}, read(2, 10, 7), read(2, 12, 10)), 2, 1},
		"the first one of the first house":     {walk(rates(), read(1, 5, 9), read(1, 6, 9), read(1, 7, 9), read(0, 7, 1), read(0, 6, 1), read(0, 5, 1)), 0, 4},
		"a house that fits, and others do not": {walk([]api.Span{span(1, 3), span(1, 3), span(1, 3)}, read(2, 1, 0), read(1, 1, 0), read(0, 1, 0), read(2, 2, 0), read(1, 2, 0), read(0, 2, 1)), 1, 4},
	} {
		t.Run(name, func(t *testing.T) { checkMisfit(t, c.w, c.house, c.reading, api.OK) })
	}
}

func three(lo, hi int) []api.Span { return []api.Span{span(0, 100), span(lo, hi), span(0, 100)} }

// P12.2 and P12.3: readings that were swapped.
func TestSwap(t *testing.T) {
	same := []api.Span{span(1, 3), span(1, 3), span(1, 3)}
	for name, c := range map[string]struct {
		w       api.Walk
		want    []api.Repair
		becomes []api.Reading
	}{
		"the greater house first": {
			walk(rates(), read(1, 10, 500), read(0, 10, 100), read(1, 20, 120), read(0, 20, 580)),
			repairs(swap(2, 3)),
			[]api.Reading{read(1, 10, 500), read(0, 10, 100), read(1, 20, 580), read(0, 20, 120)},
		},
		"the greater house first, and three days": {
			walk(rates(), read(1, 20, 120), read(0, 10, 100), read(0, 20, 580), read(1, 10, 500), read(1, 30, 660)),
			repairs(swap(0, 2)),
			[]api.Reading{read(1, 20, 580), read(0, 10, 100), read(0, 20, 120), read(1, 10, 500), read(1, 30, 660)},
		},
		"houses 1 and 2": {
			walk(same, read(1, 10, 100), read(2, 10, 900), read(1, 20, 920), read(2, 20, 120), read(1, 30, 140)),
			repairs(swap(2, 3)),
			[]api.Reading{read(1, 10, 100), read(2, 10, 900), read(1, 20, 120), read(2, 20, 920), read(1, 30, 140)},
		},
		"houses 0 and 2":   {walk(same, read(0, 10, 100), read(2, 10, 900), read(0, 20, 920), read(2, 20, 120), read(0, 30, 140)), nil, nil},
		"not the same day": {walk(rates(), read(0, 10, 100), read(1, 10, 500), read(0, 20, 580), read(1, 21, 120), read(0, 30, 140), read(1, 30, 660)), nil, nil},
		"only one house has one": {
			walk(rates(), read(0, 10, 100), read(1, 20, 120), read(0, 20, 580)),
			repairs(swap(1, 2)),
			[]api.Reading{read(0, 10, 100), read(1, 20, 580), read(0, 20, 120)},
		},
		"one house fits, and both must": {
			walk([]api.Span{span(1, 3), span(0, 100)}, read(0, 10, 100), read(1, 10, 50), read(0, 20, 500), read(1, 20, 120), read(0, 30, 140)),
			repairs(swap(2, 3)),
			[]api.Reading{read(0, 10, 100), read(1, 10, 50), read(0, 20, 120), read(1, 20, 500), read(0, 30, 140)},
		},
		"the other house would not fit": {walk([]api.Span{span(1, 3), span(0, 10)}, read(0, 10, 100), read(1, 10, 50), read(0, 20, 500), read(1, 20, 120), read(0, 30, 140)), nil, nil},
		"with either neighbour": {
			walk(three(1, 3), read(0, 10, 100), read(1, 10, 100), read(2, 10, 100), read(0, 20, 120), read(1, 20, 500), read(2, 20, 125)),
			repairs(swap(3, 4), swap(4, 5)), nil,
		},
		"with either neighbour, itself the first one": {
			walk(three(1, 3), read(1, 20, 500), read(2, 20, 125), read(0, 20, 120), read(0, 10, 100), read(1, 10, 100), read(2, 10, 100)),
			repairs(swap(0, 1), swap(0, 2)), nil,
		},
		"by A, and not by B": {
			walk([]api.Span{span(1, 3), span(0, 100)}, read(0, 10, 100), read(0, 20, 160), read(0, 30, 170), read(1, 30, 500), read(1, 20, 120), read(1, 10, 140)),
			// With the ones of the day 10 the last two of the house 0 fit, and with those of the day 20 they do not.
			repairs(swap(0, 5)),
			[]api.Reading{read(0, 10, 140), read(0, 20, 160), read(0, 30, 170), read(1, 30, 500), read(1, 20, 120), read(1, 10, 100)},
		},
		"on two days, by A, and not by B": {
			walk([]api.Span{span(1, 3), span(0, 100)}, read(0, 10, 100), read(0, 20, 160), read(1, 20, 120), read(1, 10, 140)),
			repairs(swap(0, 3), swap(1, 2)), nil,
		},
		"two swaps are too much": {walk(rates(), read(0, 10, 100), read(1, 10, 500), read(0, 20, 580), read(1, 20, 120), read(0, 30, 660), read(1, 30, 140), read(0, 40, 160), read(1, 40, 740)), nil, nil},
		"two readings of a house on a day": {
			walk(rates(), read(0, 10, 100), read(1, 10, 500), read(0, 20, 580), read(0, 20, 120), read(1, 20, 120), read(0, 30, 140)),
			repairs(swap(2, 4)),
			[]api.Reading{read(0, 10, 100), read(1, 10, 500), read(0, 20, 120), read(0, 20, 120), read(1, 20, 580), read(0, 30, 140)},
		},
	} {
		t.Run(name, func(t *testing.T) { checkExplained(t, c.w, c.want, c.becomes) })
	}
}

// P12.2 and P12.3: readings that were copied.
func TestCopied(t *testing.T) {
	for name, c := range map[string]struct {
		w       api.Walk
		want    []api.Repair
		becomes []api.Reading
	}{
		"the second one":       {one(10, 100, 20, 100, 30, 140), repairs(copied(1)), house(0, 10, 100, 30, 140)},
		"the last one":         {one(10, 100, 20, 120, 30, 120), repairs(copied(2)), house(0, 10, 100, 20, 120)},
		"of two":               {one(10, 100, 20, 100), repairs(copied(1)), house(0, 10, 100)},
		"in no order":          {one(30, 140, 20, 100, 10, 100), repairs(copied(1)), house(0, 30, 140, 10, 100)},
		"the first one of all": {one(20, 100, 30, 140, 10, 100), repairs(copied(0)), house(0, 30, 140, 10, 100)},
		"on the next day":      {one(10, 100, 11, 100, 30, 140), repairs(copied(1)), house(0, 10, 100, 30, 140)},
		// On the day of the one before it it would fit, but a late one is to be later than that.
		"not late":                   {one(10, 100, 20, 100, 21, 111), repairs(copied(1)), house(0, 10, 100, 21, 111)},
		"three times the same":       {one(10, 100, 20, 100, 30, 100, 40, 160), nil, nil},
		"of the same day":            {one(10, 100, 10, 100, 20, 200), nil, nil},
		"not just the same":          {one(10, 100, 20, 101, 21, 150), nil, nil},
		"as one before the one":      {one(10, 100, 20, 120, 30, 100), nil, nil},
		"as the one after it":        {one(10, 50, 20, 100, 30, 100, 40, 140), nil, nil},
		"what is left does not fit":  {one(10, 100, 20, 100, 30, 180), nil, nil},
		"another one does not fit":   {one(10, 100, 20, 100, 30, 140, 40, 300), nil, nil},
		"as one of another house":    {walk(rates(), read(0, 10, 100), read(1, 10, 500), read(0, 20, 500), read(1, 21, 570)), nil, nil},
		"another house does not fit": {walk(rates(), read(0, 10, 100), read(0, 20, 100), read(1, 10, 500), read(1, 21, 500)), nil, nil},
		"between others of another house": {
			walk(rates(), read(1, 15, 100), read(0, 10, 100), read(1, 18, 120), read(0, 20, 100), read(1, 22, 150)),
			repairs(copied(3)),
			[]api.Reading{read(1, 15, 100), read(0, 10, 100), read(1, 18, 120), read(1, 22, 150)},
		},
	} {
		t.Run(name, func(t *testing.T) { checkExplained(t, c.w, c.want, c.becomes) })
	}
}

// P12.2 and P12.3: readings that were late.
func TestLate(t *testing.T) {
	for name, c := range map[string]struct {
		w       api.Walk
		want    []api.Repair
		becomes []api.Reading
	}{
		"in the middle":                  {one(10, 100, 20, 105, 30, 140), repairs(late(1, 5, 8)), house(0, 10, 100, 15, 105, 30, 140)},
		"in no order":                    {one(30, 140, 20, 105, 10, 100), repairs(late(1, 5, 8)), house(0, 30, 140, 15, 105, 10, 100)},
		"the last one":                   {one(10, 100, 20, 105), repairs(late(1, 5, 8)), house(0, 10, 100, 15, 105)},
		"too much after it":              {one(10, 100, 20, 110, 25, 135), repairs(late(1, 4, 6)), house(0, 10, 100, 16, 110, 25, 135)},
		"the first one":                  {one(10, 100, 20, 131), repairs(late(0, 1, 10)), house(0, 9, 100, 20, 131)},
		"the first one, from the day 0":  {one(5, 100, 12, 135), repairs(late(0, 5, 5)), house(0, 0, 100, 12, 135)},
		"the first one, before day 0":    {one(4, 100, 11, 135), nil, nil},
		"by 30 days":                     {one(100, 100, 110, 220), repairs(late(0, 30, 30)), house(0, 70, 100, 110, 220)},
		"by 31 days":                     {one(100, 100, 110, 221), nil, nil},
		"by 30 days or less":             {one(10, 100, 50, 120), repairs(late(1, 20, 30)), house(0, 10, 100, 30, 120)},
		"by one day":                     {one(10, 100, 20, 109, 21, 111), repairs(late(1, 1, 1)), house(0, 10, 100, 19, 109, 21, 111)},
		"the day after the one before":   {one(10, 100, 20, 101), repairs(late(1, 9, 9)), house(0, 10, 100, 11, 101)},
		"the day after, with too much":   {one(10, 100, 20, 103), repairs(late(1, 7, 9)), house(0, 10, 100, 13, 103)},
		"back":                           {one(10, 100, 20, 99), nil, nil},
		"the one after it is too little": {one(10, 100, 20, 115, 30, 121), repairs(late(2, 4, 8)), house(0, 10, 100, 20, 115, 26, 121)},
		"the next one of the same day":   {one(10, 100, 20, 120, 20, 125), repairs(late(1, 2, 3)), house(0, 10, 100, 18, 120, 20, 125)},
		"the one before of the same day": {one(10, 100, 20, 125, 20, 120), nil, nil},
		"two that were late":             {one(10, 100, 20, 105, 30, 110), nil, nil},
		"another one does not fit":       {one(10, 100, 20, 105, 30, 140, 40, 300), nil, nil},
		"another house does not fit":     {walk(rates(), read(0, 10, 100), read(0, 20, 105), read(1, 10, 100), read(1, 20, 149)), nil, nil},
		"before others of another house": {
			walk(rates(), read(1, 16, 100), read(0, 10, 100), read(1, 18, 120), read(0, 20, 105), read(1, 22, 150)),
			repairs(late(3, 5, 8)),
			[]api.Reading{read(1, 16, 100), read(0, 10, 100), read(1, 18, 120), read(0, 15, 105), read(1, 22, 150)},
		},
		"a Rate that is known": {
			walk([]api.Span{just(7)}, house(0, 10, 100, 20, 149, 30, 240)...),
			repairs(late(1, 3, 3)), house(0, 10, 100, 17, 149, 30, 240),
		},
		"before a day that may be any": {
			walk([]api.Span{span(0, 5)}, house(0, 40, 100, 80, 100, 82, 160)...),
			// It may have been copied, too.
			repairs(copied(1), late(1, 10, 30)), nil,
		},
	} {
		t.Run(name, func(t *testing.T) { checkExplained(t, c.w, c.want, c.becomes) })
	}
}

// P12.2: repairs of all kinds, by their kinds.
func TestAllKinds(t *testing.T) {
	w := walk([]api.Span{span(0, 3), span(0, 100)}, read(1, 20, 115), read(0, 20, 100), read(0, 10, 100), read(1, 10, 100), read(0, 30, 140), read(1, 30, 140))
	checkExplained(t, w, repairs(swap(0, 1), copied(1), late(1, 4, 9)), nil)
	w.Readings[0].Day++
	checkExplained(t, w, repairs(copied(1), late(1, 4, 9)), nil)
	w.Readings[0].Day--
	w.Readings[1].Shows = 101
	checkExplained(t, w, repairs(swap(0, 1), late(1, 3, 9)), nil)
	w.Rates[0].Lo = 1
	w.Readings[1].Shows = 100
	checkExplained(t, w, repairs(swap(0, 1), copied(1)), nil)
	w.Readings[0].Shows = 105
	checkExplained(t, w, repairs(copied(1)), append([]api.Reading{w.Readings[0]}, w.Readings[2:]...))
}

// P12.4: before all readings, on their days, between them and after all of them.
func TestShows(t *testing.T) {
	w := one(30, 150, 10, 100, 20, 125)
	for day, want := range map[int]api.Span{
		0: span(70, 90), 1: span(73, 91), 9: span(97, 99), 10: just(100),
		// In the first ten days 25 go: from 1 to 3 in each, and in the others not more than what is left, nor less.
		11: span(101, 103), 12: span(102, 106), 15: span(110, 115), 18: span(119, 123), 19: span(122, 124), 20: just(125),
		21: span(126, 128), 25: span(135, 140), 29: span(147, 149), 30: just(150),
		31: span(151, 153), 40: span(160, 180), api.MaxDay: span(150+api.MaxDay-30, 150+3*(api.MaxDay-30)),
	} {
		checkShows(t, w, 0, day, want, api.OK)
	}
	w = one(100, 20)
	for day, want := range map[int]api.Span{0: span(-280, -80), 80: span(-40, 0), 90: span(-10, 10), 99: span(17, 19), 100: just(20), 101: span(21, 23)} {
		checkShows(t, w, 0, day, want, api.OK)
	}
	// Where the least of the Rate goes, or the greatest, all days between are known.
	w = one(10, 100, 20, 110, 30, 140)
	for day, want := range map[int]api.Span{11: just(101), 19: just(109), 21: just(113), 29: just(137)} {
		checkShows(t, w, 0, day, want, api.OK)
	}
}

// P12.4: each house by itself.
func TestShowsOfHouses(t *testing.T) {
	w := mended()
	for day, want := range map[int]api.Span{0: span(400, 450), 10: just(500), 11: span(505, 510), 15: span(530, 550), 25: span(610, 630), 31: span(665, 670)} {
		checkShows(t, w, 1, day, want, api.OK)
	}
	w.Readings[3].Shows = 560
	checkShows(t, w, 1, 15, span(525, 535), api.OK)
	checkShows(t, w, 1, 25, just(610), api.OK)
	w.Readings[3].Shows = 559
	checkShows(t, w, 1, 15, api.Span{}, api.ErrState)
	checkShows(t, w, 1, 10, api.Span{}, api.ErrState)
	checkShows(t, w, 0, 15, span(105, 115), api.OK)
	w.Rates = append(w.Rates, span(1, 1), span(0, 0))
	w.Readings = append(w.Readings, read(3, 7, 9))
	checkShows(t, w, 2, 15, api.Span{}, api.ErrNone)
	checkShows(t, w, 3, 0, just(9), api.OK)
	checkShows(t, w, 3, api.MaxDay, just(9), api.OK)
	checkShows(t, w, 0, 32, span(142, 146), api.OK)
}
