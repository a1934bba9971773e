package zone_test

import (
	"slices"
	"testing"

	"meterworks/api"
	"meterworks/zone"
)

func span(lo, hi int) api.Span { return api.Span{Lo: lo, Hi: hi} }

func just(n int) api.Span { return span(n, n) }

// none is the own span of a zone that has none.
func none() api.Span { return span(1, 0) }

func of(in, meters, wrong, lawful api.Span, part int) api.Zone {
	return api.Zone{In: in, Meters: meters, Error: wrong, Lawful: lawful, Part: part}
}

// loses returns a zone without meters, of which it is known what flows in, and so what is lost.
func loses(lo, hi, part int) api.Zone { return api.Zone{In: span(lo, hi), Part: part} }

func exampleZones() []api.Zone {
	return []api.Zone{
		of(span(10000, 10100), just(7000), span(-20, 20), span(100, 300), api.NoZone),
		of(span(6000, 6050), just(4000), span(-20, 0), span(50, 100), 0),
		of(span(4000, 4100), just(3000), span(0, 20), span(50, 100), 0),
	}
}

func exampleNights() []api.Night {
	return []api.Night{
		night(span(100, 110), span(20, 40), span(20, 24)),
		night(span(50, 60), span(30, 40), span(20, 24)),
		night(span(40, 50), span(0, 10), span(10, 12)),
	}
}

func night(flow, use, hours api.Span) api.Night {
	return api.Night{Flow: flow, Use: use, Hours: hours}
}

// leaks returns a night in which one litre an hour leaks, for some hours.
func leaks(lo, hi int) api.Night { return night(just(1), just(0), span(lo, hi)) }

// changed returns the example's zones, one of them changed.
func changed(i int, change func(z *api.Zone)) []api.Zone {
	l := exampleZones()
	change(&l[i])
	return l
}

// wrongZones returns the example's zones with too little inflow into the zone 0.
func wrongZones() []api.Zone {
	return changed(0, func(z *api.Zone) { z.In = span(9000, 9100) })
}

func checkOwn(t *testing.T, l []api.Zone, want []api.Span, e api.Errno) {
	t.Helper()
	if got, f := zone.Own(l); !slices.Equal(got, want) || f != e {
		t.Error("Own", l, "is", got, f, "and not", want, e)
	}
}

func checkLosses(t *testing.T, l []api.Zone, want []api.Span, e api.Errno) {
	t.Helper()
	if got, f := zone.Losses(l); !slices.Equal(got, want) || f != e {
		t.Error("Losses", l, "is", got, f, "and not", want, e)
	}
}

func checkWrong(t *testing.T, l []api.Zone, want int, e api.Errno) {
	t.Helper()
	if got, f := zone.Wrong(l); got != want || f != e {
		t.Error("Wrong", l, "is", got, f, "and not", want, e)
	}
}

func checkLeaks(t *testing.T, l []api.Zone, nights []api.Night, want []api.Span, e api.Errno) {
	t.Helper()
	if got, f := zone.Leaks(l, nights); !slices.Equal(got, want) || f != e {
		t.Error("Leaks", l, nights, "is", got, f, "and not", want, e)
	}
}

func checkFirst(t *testing.T, l []api.Zone, nights []api.Night, want int, e api.Errno) {
	t.Helper()
	if got, f := zone.First(l, nights); got != want || f != e {
		t.Error("First", l, nights, "is", got, f, "and not", want, e)
	}
}

// The examples of the chapter.
func TestExamples(t *testing.T) {
	l, nights := exampleZones(), exampleNights()
	checkOwn(t, l, []api.Span{span(2558, 3137), span(1819, 2000), span(900, 1108)}, api.OK)
	checkLosses(t, l, []api.Span{span(2719, 3108), span(1819, 2000), span(900, 1108)}, api.OK)
	checkWrong(t, l, 0, api.ErrNone)
	checkLeaks(t, l, nights, []api.Span{span(1200, 2160), span(200, 720), span(300, 600)}, api.OK)
	checkFirst(t, l, nights, 1, api.OK)
	checkLosses(t, wrongZones(), nil, api.ErrState)
	checkWrong(t, wrongZones(), 0, api.OK)
	checkFirst(t, wrongZones(), nights, 0, api.ErrState)
}

// P9.1: own spans, rounded inwards, and at least 0.
func TestOwn(t *testing.T) {
	const most, thou = api.MaxLitres, api.MaxThou
	nought := just(0)
	for name, c := range map[string]struct {
		z    api.Zone
		want api.Span
	}{
		"nothing at all":                         {of(nought, nought, nought, nought, -1), just(0)},
		"an inflow alone":                        {loses(3, 7, -1), span(3, 7)},
		"meters that do not err":                 {of(span(100, 120), span(50, 60), nought, nought, -1), span(40, 70)},
		"lawful water":                           {of(span(100, 120), span(50, 60), nought, span(5, 9), -1), span(31, 65)},
		"meters that show too much":              {of(just(1000), just(600), just(200), nought, -1), just(500)},
		"meters that show too little":            {of(just(1000), just(600), just(-200), nought, -1), just(250)},
		"meters that show half":                  {of(just(1000), just(300), just(-thou), nought, -1), just(400)},
		"meters that show half as much more":     {of(just(1000), just(300), just(thou), nought, -1), just(800)},
		"both ends of what they err":             {of(just(1000), just(300), span(-thou, thou), nought, -1), span(400, 800)},
		"both ends are whole":                    {of(span(1000, 1100), span(300, 600), span(-250, 200), just(1), -1), span(199, 849)},
		"the least is rounded up":                {of(just(100), span(9, 10), span(-7, 0), nought, -1), span(90, 91)},
		"the greatest is rounded down":           {of(just(100), span(9, 10), span(0, 7), nought, -1), span(90, 91)},
		"a thousandth more than a whole one":     {of(just(1000), just(1000), span(-1, 0), nought, -1), just(0)},
		"from below 0 to a whole one":            {of(just(1000), just(1000), span(-1, 1), nought, -1), just(0)},
		"far below 0, and above":                 {of(span(0, 50), span(20, 90), nought, span(1, 2), -1), span(0, 29)},
		"0 is the greatest":                      {of(span(0, 50), span(50, 90), nought, nought, -1), just(0)},
		"a little below 0":                       {of(just(1000), just(1000), span(-2, -1), nought, -1), none()},
		"below 0 by one":                         {of(span(0, 50), span(51, 90), nought, nought, -1), none()},
		"far below 0":                            {of(nought, just(most), nought, just(most), -1), none()},
		"below 0 by what is lawful":              {of(just(10), nought, nought, span(11, 12), -1), none()},
		"no whole litre between":                 {of(just(100), just(50), just(7), nought, -1), none()},
		"no whole litre between 0 and 1":         {of(just(100), just(100), just(7), nought, -1), none()},
		"one whole litre between":                {of(just(100), just(50), span(-7, 7), nought, -1), just(50)},
		"fractions at both ends":                 {of(just(1000), just(700), span(-3, 3), nought, -1), span(298, 302)},
		"all of it":                              {of(just(most), nought, span(-thou, thou), nought, -1), just(most)},
		"from nothing to all of it":              {of(span(0, most), span(0, most), span(-thou, thou), span(0, most), -1), span(0, most)},
		"as much as there can be, and one litre": {of(just(most), just(most-1), nought, nought, -1), just(1)},
		"half of the most":                       {of(just(most), just(most/2), span(-thou, 0), nought, -1), span(0, most/2)},
		"the most, by meters that show too much": {of(just(most), just(most), span(0, thou), nought, -1), span(0, 357913941)},
		"the most, less a third and a litre":     {of(just(most), just(most-1), just(thou), nought, -1), just(357913942)},
	} {
		t.Run(name, func(t *testing.T) {
			checkOwn(t, []api.Zone{c.z}, []api.Span{c.want}, api.OK)
			c.z.Part = 0
			both := []api.Zone{loses(5, 4000, -1), c.z}
			checkOwn(t, both, []api.Span{span(5, 4000), c.want}, api.OK)
		})
	}
}

// chain returns zones of which each is a part of the one before.
func chain(l ...api.Span) []api.Zone {
	var out []api.Zone
	for i, s := range l {
		out = append(out, loses(s.Lo, s.Hi, i-1))
	}
	return out
}

// forest returns two zones with parts, and one without.
func forest(spans ...api.Span) []api.Zone {
	var out []api.Zone
	for i, part := range []int{-1, -1, 0, 1, 0, 2, 2, 1, -1} {
		out = append(out, loses(spans[i].Lo, spans[i].Hi, part))
	}
	return out
}

// P9.2: losses, narrower by what a zone is a part of, and by its parts.
func TestLosses(t *testing.T) {
	for name, c := range map[string]struct {
		l    []api.Zone
		want []api.Span
	}{
		"one zone":                    {[]api.Zone{loses(3, 7, -1)}, []api.Span{span(3, 7)}},
		"two zones":                   {[]api.Zone{loses(3, 7, -1), loses(5, 6, -1)}, []api.Span{span(3, 7), span(5, 6)}},
		"a part by the whole":         {chain(span(3, 7), span(0, 9)), []api.Span{span(3, 7), span(3, 7)}},
		"the whole by its part":       {chain(span(0, 9), span(3, 7)), []api.Span{span(3, 7), span(3, 7)}},
		"each by the other":           {chain(span(3, 9), span(0, 7)), []api.Span{span(3, 7), span(3, 7)}},
		"a chain, from its end":       {chain(span(0, 9), span(0, 9), span(2, 8), span(4, 5)), []api.Span{span(4, 5), span(4, 5), span(4, 5), span(4, 5)}},
		"a chain, from its beginning": {chain(span(4, 5), span(0, 9), span(2, 8), span(0, 9)), []api.Span{span(4, 5), span(4, 5), span(4, 5), span(4, 5)}},
		"a chain, from its middle":    {chain(span(0, 9), span(2, 6), span(5, 8), span(0, 9)), []api.Span{span(5, 6), span(5, 6), span(5, 6), span(5, 6)}},
		"the whole by two parts":      {[]api.Zone{loses(0, 99, -1), loses(3, 7, 0), loses(10, 20, 0)}, []api.Span{span(13, 27), span(3, 7), span(10, 20)}},
		"a part by the whole and another part": {[]api.Zone{loses(15, 16, -1), loses(3, 7, 0), loses(0, 99, 0)},
			[]api.Span{span(15, 16), span(3, 7), span(8, 13)}},
		"both parts by the whole": {[]api.Zone{loses(5, 6, -1), loses(0, 9, 0), loses(0, 9, 0)},
			[]api.Span{span(5, 6), span(0, 6), span(0, 6)}},
		"the other part can lose less, but not all": {[]api.Zone{loses(10, 10, -1), loses(0, 20, 0), loses(0, 3, 0), loses(1, 4, 0)},
			[]api.Span{just(10), span(3, 9), span(0, 3), span(1, 4)}},
		"a part by a part of another part": {[]api.Zone{loses(10, 12, -1), loses(0, 50, 0), loses(0, 50, 0), loses(7, 8, 1)},
			[]api.Span{span(10, 12), span(7, 8), span(2, 5), span(7, 8)}},
		"a part of a part by the whole": {[]api.Zone{loses(10, 12, -1), loses(0, 50, 0), loses(2, 5, 0), loses(0, 50, 1), loses(3, 4, 1)},
			[]api.Span{span(10, 12), span(5, 10), span(2, 5), span(1, 7), span(3, 4)}},
		"nothing is lost": {[]api.Zone{loses(0, 0, -1), loses(0, 50, 0), loses(0, 0, 0), loses(0, 50, 1)},
			[]api.Span{just(0), just(0), just(0), just(0)}},
		"all is just so": {[]api.Zone{loses(5, 5, -1), loses(2, 2, 0), loses(3, 3, 0)}, []api.Span{just(5), just(2), just(3)}},
		"zones that are mixed": {forest(span(0, 20), span(30, 31), span(4, 90), span(10, 90), span(12, 13), span(1, 2), span(0, 90), span(0, 15), span(8, 9)),
			[]api.Span{span(16, 20), span(30, 31), span(4, 8), span(15, 31), span(12, 13), span(1, 2), span(2, 7), span(0, 15), span(8, 9)}},
	} {
		t.Run(name, func(t *testing.T) {
			checkLosses(t, c.l, c.want, api.OK)
			checkWrong(t, c.l, 0, api.ErrNone)
		})
	}
}

// P9.2 and P9.3: where there is no truth, the last zone that has none is wrong.
func TestWrong(t *testing.T) {
	for name, c := range map[string]struct {
		l    []api.Zone
		want int
	}{
		"one zone":                           {[]api.Zone{of(just(5), just(6), just(0), just(0), -1)}, 0},
		"a zone without a whole litre":       {[]api.Zone{of(just(100), just(50), just(7), just(0), -1)}, 0},
		"the first of two zones":             {[]api.Zone{of(just(5), just(6), just(0), just(0), -1), loses(3, 4, -1)}, 0},
		"the last of two zones":              {[]api.Zone{loses(3, 4, -1), of(just(5), just(6), just(0), just(0), -1)}, 1},
		"a part":                             {[]api.Zone{loses(0, 4, -1), of(just(5), just(6), just(0), just(0), 0)}, 1},
		"a part that loses more":             {chain(span(3, 7), span(8, 9)), 0},
		"a part that loses less":             {chain(span(3, 7), span(0, 2)), 0},
		"parts that together lose more":      {[]api.Zone{loses(3, 7, -1), loses(4, 9, 0), loses(4, 9, 0)}, 0},
		"parts that together lose less":      {[]api.Zone{loses(9, 20, -1), loses(0, 4, 0), loses(0, 4, 0)}, 0},
		"a zone in the middle":               {chain(span(0, 50), span(3, 7), span(8, 9)), 1},
		"the end of a chain":                 {chain(span(0, 1), span(0, 50), span(3, 7), span(8, 9)), 2},
		"by a part of a part":                {chain(span(3, 7), span(0, 50), span(8, 9)), 0},
		"by all parts of parts":              {[]api.Zone{loses(0, 5, -1), loses(0, 9, 0), loses(0, 9, 0), loses(3, 9, 1), loses(3, 9, 2)}, 0},
		"the last one of two that are wrong": {[]api.Zone{loses(0, 1, -1), loses(0, 1, -1), loses(2, 3, 1), loses(2, 3, 0)}, 1},
		"a part of the first zone, after a part of the last one": {[]api.Zone{loses(0, 9, -1), loses(0, 9, -1), loses(0, 1, 1), loses(0, 1, 0), loses(2, 3, 2), loses(2, 3, 3)}, 3},
		"a part of the last zone, after a part of the first one": {[]api.Zone{loses(0, 9, -1), loses(0, 9, -1), loses(0, 1, 0), loses(0, 1, 1), loses(2, 3, 3), loses(2, 3, 2)}, 3},
		"zones that are mixed":                     {forest(span(0, 20), span(30, 31), span(4, 90), span(10, 90), span(17, 17), span(1, 2), span(0, 90), span(0, 15), span(8, 9)), 0},
		"an other one of them":                     {forest(span(0, 20), span(30, 31), span(4, 90), span(10, 14), span(17, 17), span(1, 2), span(0, 90), span(0, 15), span(8, 9)), 1},
		"a part of them":                           {forest(span(0, 20), span(30, 31), span(4, 90), span(10, 14), span(17, 17), span(1, 2), span(0, 1), span(0, 15), span(8, 9)), 2},
		"the first zone, before one that is right": {[]api.Zone{loses(9, 9, -1), loses(1, 2, -1), loses(3, 4, 0)}, 0},
	} {
		t.Run(name, func(t *testing.T) {
			checkWrong(t, c.l, c.want, api.OK)
			checkLosses(t, c.l, nil, api.ErrState)
			checkFirst(t, c.l, make([]api.Night, len(c.l)), 0, api.ErrState)
		})
	}
}

// P9.4: what leaks by night.
func TestLeaks(t *testing.T) {
	for name, c := range map[string]struct {
		n    api.Night
		want api.Span
	}{
		"nothing":                      {api.Night{}, just(0)},
		"the ends":                     {night(span(50, 60), span(10, 20), span(3, 4)), span(90, 200)},
		"no hours":                     {night(span(50, 60), span(10, 20), just(0)), just(0)},
		"from no hours":                {night(span(50, 60), span(10, 20), span(0, 4)), span(0, 200)},
		"nothing is used":              {night(span(50, 60), just(0), span(3, 4)), span(150, 240)},
		"all may be used":              {night(span(50, 60), span(10, 50), span(3, 4)), span(0, 200)},
		"more may be used than flows":  {night(span(50, 60), span(10, 51), span(3, 4)), span(0, 200)},
		"far more":                     {night(span(50, 60), span(10, api.MaxLitres), span(3, 4)), span(0, 200)},
		"as much is used":              {night(span(50, 60), span(60, 70), span(3, 4)), just(0)},
		"more is used than flows":      {night(span(50, 60), span(61, 70), span(3, 4)), just(0)},
		"a litre less is used":         {night(span(50, 60), span(59, 70), span(3, 4)), span(0, 4)},
		"a litre less at most is used": {night(span(50, 60), span(49, 49), span(3, 4)), span(3, 44)},
		"the most": {night(just(api.MaxLitres), just(0), just(api.MaxHours)),
			just(api.MaxLitres * api.MaxHours)},
		"anything": {night(span(0, api.MaxLitres), span(0, api.MaxLitres), span(0, api.MaxHours)),
			span(0, api.MaxLitres*api.MaxHours)},
	} {
		t.Run(name, func(t *testing.T) {
			checkLeaks(t, []api.Zone{loses(5, 6, -1)}, []api.Night{c.n}, []api.Span{c.want}, api.OK)
			checkLeaks(t, wrongZones(), []api.Night{{}, c.n, leaks(7, 9)}, []api.Span{just(0), c.want, span(7, 9)}, api.OK)
		})
	}
}

// P9.5: the zone that is searched first.
func TestFirst(t *testing.T) {
	dry := func(n int) []api.Night { return make([]api.Night, n) }
	for name, c := range map[string]struct {
		l      []api.Zone
		nights []api.Night
		want   int
		e      api.Errno
	}{
		"one zone":                      {[]api.Zone{loses(1, 2, -1)}, dry(1), 0, api.OK},
		"one zone that loses nothing":   {[]api.Zone{loses(0, 2, -1)}, dry(1), 0, api.ErrNone},
		"one that leaks":                {[]api.Zone{loses(0, 2, -1)}, []api.Night{leaks(1, 1)}, 0, api.OK},
		"one that may leak":             {[]api.Zone{loses(0, 2, -1)}, []api.Night{leaks(0, 9)}, 0, api.ErrNone},
		"one that leaks, but cannot":    {[]api.Zone{loses(0, 0, -1)}, []api.Night{leaks(5, 9)}, 0, api.ErrNone},
		"the greatest Lo":               {[]api.Zone{loses(3, 90, -1), loses(5, 6, -1), loses(4, 90, -1)}, dry(3), 1, api.OK},
		"the first of several":          {[]api.Zone{loses(3, 90, -1), loses(5, 6, -1), loses(5, 90, -1)}, dry(3), 1, api.OK},
		"the greatest leak":             {[]api.Zone{loses(3, 90, -1), loses(5, 90, -1)}, []api.Night{leaks(6, 6), leaks(0, 99)}, 0, api.OK},
		"a leak that is as great":       {[]api.Zone{loses(3, 90, -1), loses(5, 90, -1)}, []api.Night{leaks(5, 6), leaks(0, 99)}, 0, api.OK},
		"a leak that is less":           {[]api.Zone{loses(3, 90, -1), loses(5, 90, -1)}, []api.Night{leaks(4, 99), leaks(0, 0)}, 1, api.OK},
		"a leak beyond the Hi":          {[]api.Zone{loses(3, 5, -1), loses(6, 6, -1)}, []api.Night{leaks(99, 99), leaks(0, 0)}, 1, api.OK},
		"a leak beyond the Hi is worth": {[]api.Zone{loses(3, 6, -1), loses(5, 9, -1)}, []api.Night{leaks(99, 99), leaks(0, 0)}, 0, api.OK},
		"as much by the one as by the other": {[]api.Zone{loses(5, 9, -1), loses(0, 9, -1)},
			[]api.Night{leaks(0, 0), leaks(5, 5)}, 0, api.OK},
		"not one with parts":        {[]api.Zone{loses(9, 9, -1), loses(4, 9, 0), loses(4, 9, 0)}, dry(3), 1, api.OK},
		"not one whose part has it": {chain(span(5, 9), span(5, 9), span(5, 9)), dry(3), 2, api.OK},
		"not one that leaks with parts": {[]api.Zone{loses(0, 9, -1), loses(0, 9, 0), loses(0, 9, 0)},
			[]api.Night{leaks(9, 9), leaks(0, 9), leaks(0, 9)}, 0, api.ErrNone},
		"by the loss that is narrower": {[]api.Zone{loses(15, 16, -1), loses(5, 7, 0), loses(0, 99, 0)}, dry(3), 2, api.OK},
		"by the Hi that is narrower": {[]api.Zone{loses(9, 9, -1), loses(4, 99, 0), loses(3, 5, 0)},
			[]api.Night{leaks(0, 0), leaks(0, 0), leaks(99, 99)}, 2, api.OK},
		"by the Hi that is narrower, not as much": {[]api.Zone{loses(8, 8, -1), loses(5, 99, 0), loses(3, 9, 0)},
			[]api.Night{leaks(0, 0), leaks(0, 0), leaks(99, 99)}, 1, api.OK},
		"parts of parts": {forest(span(0, 20), span(30, 31), span(4, 90), span(10, 90), span(12, 13), span(1, 2), span(0, 90), span(0, 15), span(8, 9)),
			dry(9), 3, api.OK},
	} {
		t.Run(name, func(t *testing.T) { checkFirst(t, c.l, c.nights, c.want, c.e) })
	}
}
