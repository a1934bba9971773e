package step_test

import (
	"testing"

	"meterworks/api"
	"meterworks/step"
)

func span(lo, hi int) api.Span { return api.Span{Lo: lo, Hi: hi} }

func just(n int) api.Span { return span(n, n) }

// streets returns a set of streets.
func streets(l ...int) int {
	set := 0
	for _, street := range l {
		set |= 1 << street
	}
	return set
}

func flow(shut int, lo, hi int) api.Step { return api.Step{Shut: shut, Flow: span(lo, hi)} }

// unused returns a test of streets in which nothing is used.
func unused(count, leaks, least int, steps ...api.Step) api.Steps {
	return api.Steps{Uses: make([]api.Span, count), Leaks: leaks, Least: least, Steps: steps}
}

func example() api.Steps {
	return api.Steps{
		Uses: []api.Span{span(0, 5), span(0, 5), span(0, 5)}, Leaks: 1, Least: 20,
		Steps: []api.Step{flow(streets(), 40, 45), flow(streets(0), 38, 44), flow(streets(0, 1), 0, 6)},
	}
}

// changed returns the example, changed.
func changed(change func(t *api.Steps)) api.Steps {
	t := example()
	change(&t)
	return t
}

func withLeaks(leaks, least int) api.Steps {
	return changed(func(t *api.Steps) { t.Leaks, t.Least = leaks, least })
}

// firstStep returns the first step of the example alone, with some flow.
func firstStep(lo, hi int) api.Steps {
	return changed(func(t *api.Steps) { t.Steps = []api.Step{flow(streets(), lo, hi)} })
}

func checkSuspects(t *testing.T, s api.Steps, can, surely int, e api.Errno) {
	t.Helper()
	if gotCan, gotSurely, f := step.Suspects(s); gotCan != can || gotSurely != surely || f != e {
		t.Error("Suspects", s, "is", gotCan, gotSurely, f, "and not", can, surely, e)
	}
}

func checkLeak(t *testing.T, s api.Steps, street int, want api.Span, e api.Errno) {
	t.Helper()
	if got, f := step.Leak(s, street); got != want || f != e {
		t.Error("Leak", s, street, "is", got, f, "and not", want, e)
	}
}

func checkSound(t *testing.T, s api.Steps, want bool, e api.Errno) {
	t.Helper()
	if got, f := step.Sound(s); got != want || f != e {
		t.Error("Sound", s, "is", got, f, "and not", want, e)
	}
}

func checkNext(t *testing.T, s api.Steps, valves []int, valve, left int, e api.Errno) {
	t.Helper()
	if gotValve, gotLeft, f := step.Next(s, valves); gotValve != valve || gotLeft != left || f != e {
		t.Error("Next", s, valves, "is", gotValve, gotLeft, f, "and not", valve, left, e)
	}
}

// checkStreets checks what is told of all streets of a test: which can leak, each with its leak, and which surely do.
func checkStreets(t *testing.T, s api.Steps, leak map[int]api.Span, surely int) {
	t.Helper()
	can := 0
	for street := range s.Uses {
		want, leaks := leak[street]
		if leaks {
			can |= 1 << street
			checkLeak(t, s, street, want, api.OK)
		} else {
			checkLeak(t, s, street, api.Span{}, api.ErrNone)
		}
	}
	checkSuspects(t, s, can, surely, api.OK)
}

// checkNothing checks that no truth fits a test.
func checkNothing(t *testing.T, s api.Steps) {
	t.Helper()
	checkSuspects(t, s, 0, 0, api.ErrState)
	checkSound(t, s, false, api.ErrState)
	for street := range s.Uses {
		checkLeak(t, s, street, api.Span{}, api.ErrState)
	}
	checkNext(t, s, []int{1}, 0, 0, api.ErrState)
	checkNext(t, s, nil, 0, 0, api.ErrState)
}

// The examples of the chapter.
func TestExamples(t *testing.T) {
	checkSuspects(t, example(), streets(1), streets(1), api.OK)
	checkSound(t, example(), false, api.OK)
	checkLeak(t, example(), 1, span(28, 44), api.OK)
	checkLeak(t, example(), 0, api.Span{}, api.ErrNone)
	checkStreets(t, withLeaks(2, 20), map[int]api.Span{1: span(28, 44)}, streets(1))
	checkStreets(t, withLeaks(2, 1), map[int]api.Span{0: span(1, 17), 1: span(22, 44), 2: span(1, 6)}, streets(1))
	checkSuspects(t, firstStep(40, 45), streets(0, 1, 2), streets(), api.OK)
	checkLeak(t, firstStep(40, 45), 2, span(25, 45), api.OK)
	checkNext(t, firstStep(40, 45), []int{streets(0), streets(0, 1), streets(2)}, 0, 2, api.OK)
	checkSound(t, firstStep(0, 10), true, api.OK)
	checkSuspects(t, firstStep(0, 10), streets(), streets(), api.OK)
	checkSound(t, firstStep(16, 19), false, api.ErrState)
	checkSuspects(t, firstStep(16, 19), 0, 0, api.ErrState)
}

// P10.1 and P10.2: who can leak, who surely does, and how much.
func TestStreets(t *testing.T) {
	const most = api.MaxLitres
	all := span(5, most)
	for name, c := range map[string]struct {
		s      api.Steps
		leak   map[int]api.Span
		surely int
	}{
		"no steps":                         {unused(2, 1, 5), map[int]api.Span{0: all, 1: all}, 0},
		"no steps, two leaks":              {unused(3, 2, 5), map[int]api.Span{0: all, 1: all, 2: all}, 0},
		"no steps, no leaks":               {unused(2, 0, 5), nil, 0},
		"one street":                       {unused(1, 1, 5, flow(0, 7, 9)), map[int]api.Span{0: span(7, 9)}, streets(0)},
		"one street, two leaks":            {unused(1, 2, 5, flow(0, 7, 9)), map[int]api.Span{0: span(7, 9)}, streets(0)},
		"one street that may leak":         {unused(1, 1, 5, flow(0, 0, 9)), map[int]api.Span{0: span(5, 9)}, 0},
		"one street that leaks too little": {unused(1, 1, 5, flow(0, 0, 4)), nil, 0},
		"just the least":                   {unused(1, 1, 5, flow(0, 3, 5)), map[int]api.Span{0: just(5)}, streets(0)},
		"the greatest leak":                {unused(1, 1, 5, flow(0, most, most)), map[int]api.Span{0: just(most)}, streets(0)},
		"a street that is always shut":     {unused(2, 1, 5, flow(streets(0), 0, 0)), map[int]api.Span{0: all}, 0},
		"all streets are shut":             {unused(2, 2, 5, flow(streets(0, 1), 0, 3)), map[int]api.Span{0: all, 1: all}, 0},
		"by two steps":                     {unused(1, 1, 5, flow(0, 7, 20), flow(0, 3, 12)), map[int]api.Span{0: span(7, 12)}, streets(0)},
		"a step that says less":            {unused(1, 1, 5, flow(0, 7, 12), flow(0, 0, 20)), map[int]api.Span{0: span(7, 12)}, streets(0)},
		"the steps of two streets":         {unused(2, 2, 5, flow(streets(1), 7, 9), flow(streets(0), 6, 30)), map[int]api.Span{0: span(7, 9), 1: span(6, 30)}, streets(0, 1)},
		"two together": {unused(2, 2, 5, flow(0, 20, 30)),
			map[int]api.Span{0: span(5, 30), 1: span(5, 30)}, 0},
		"two together, and one of them": {unused(2, 2, 5, flow(0, 20, 30), flow(streets(1), 6, 8)),
			map[int]api.Span{0: span(6, 8), 1: span(12, 24)}, streets(0, 1)},
		"two together, and each of them": {unused(2, 2, 5, flow(0, 20, 30), flow(streets(1), 6, 13), flow(streets(0), 9, 40)),
			map[int]api.Span{0: span(6, 13), 1: span(9, 24)}, streets(0, 1)},
		"the other one is great": {unused(2, 2, 5, flow(0, 20, 30), flow(streets(0), 24, 25)),
			map[int]api.Span{0: span(5, 6), 1: span(24, 25)}, streets(1)},
		"the other one leaves just one number": {unused(2, 2, 5, flow(0, 0, 30), flow(streets(0), 25, 40), flow(streets(1), 5, 5)),
			map[int]api.Span{0: just(5), 1: just(25)}, streets(0, 1)},
		"two of three": {unused(3, 2, 5, flow(0, 10, 12), flow(streets(0), 5, 6)),
			map[int]api.Span{0: span(5, 7), 1: span(5, 6), 2: span(5, 6)}, streets(0)},
		"two are more than the greatest leak": {unused(3, 2, 5, flow(streets(1, 2), most, most), flow(streets(0, 2), most, most)),
			map[int]api.Span{0: just(most), 1: just(most)}, streets(0, 1)},
		"what is used": {api.Steps{Uses: []api.Span{span(1, 4), span(10, 12)}, Leaks: 1, Least: 5, Steps: []api.Step{flow(0, 20, 24)}},
			map[int]api.Span{0: span(5, 13), 1: span(5, 13)}, 0},
		"what is used where nothing is shut": {api.Steps{Uses: []api.Span{span(1, 4), span(10, 12)}, Leaks: 1, Least: 5, Steps: []api.Step{flow(0, 22, 24), flow(streets(0), 10, 12)}},
			map[int]api.Span{0: span(6, 13)}, streets(0)},
		"what is used is another number at each step": {api.Steps{Uses: []api.Span{span(0, 9)}, Leaks: 1, Least: 5, Steps: []api.Step{flow(0, 10, 10), flow(0, 18, 18)}},
			map[int]api.Span{0: span(9, 10)}, streets(0)},
		"by one street, or by two": {unused(2, 2, 5, flow(0, 10, 10), flow(streets(0), 5, 10)),
			map[int]api.Span{0: just(5), 1: span(5, 10)}, streets(1)},
	} {
		t.Run(name, func(t *testing.T) { checkStreets(t, c.s, c.leak, c.surely) })
	}
}

// P10.1 to P10.4: tests that no truth fits.
func TestNoTruth(t *testing.T) {
	const most = api.MaxLitres
	for name, s := range map[string]api.Steps{
		"a flow between nothing and the least":         unused(2, 2, 5, flow(0, 1, 4)),
		"a flow, but no leaks":                         unused(2, 0, 5, flow(0, 7, 9)),
		"all streets are shut, and there is a flow":    unused(2, 2, 5, flow(streets(0, 1), 1, 9)),
		"less than what is used":                       {Uses: []api.Span{span(10, 12)}, Leaks: 1, Least: 5, Steps: []api.Step{flow(0, 7, 9)}},
		"two steps that speak against each other":      unused(2, 2, 5, flow(0, 7, 9), flow(0, 10, 12)),
		"more by a street less":                        unused(2, 2, 5, flow(0, 7, 9), flow(streets(0), 10, 12)),
		"three leaks":                                  unused(3, 2, 5, flow(streets(0, 1), 7, 9), flow(streets(0, 2), 7, 9), flow(streets(1, 2), 7, 9)),
		"two leaks, one may be":                        unused(3, 1, 5, flow(streets(0, 1), 7, 9), flow(streets(0, 2), 7, 9)),
		"two that together are less than each":         unused(2, 2, 5, flow(streets(0), 7, 9), flow(streets(1), 7, 9), flow(0, 10, 13)),
		"two that together are more than each":         unused(2, 2, 5, flow(streets(0), 7, 9), flow(streets(1), 7, 9), flow(0, 19, 30)),
		"a leak that is more than the greatest":        {Uses: []api.Span{just(0)}, Leaks: 1, Least: most, Steps: []api.Step{flow(0, 1, most-1)}},
		"one of two whose steps do not fit each other": unused(2, 2, 5, flow(streets(0), 7, 9), flow(streets(1), 7, 9), flow(streets(0), 10, 12), flow(0, 14, 20)),
	} {
		t.Run(name, func(t *testing.T) { checkNothing(t, s) })
	}
}

// P10.3: whether it can be that no street leaks.
func TestSound(t *testing.T) {
	for name, c := range map[string]struct {
		s    api.Steps
		want bool
	}{
		"no steps":                       {unused(2, 1, 5), true},
		"no flow":                        {unused(2, 1, 5, flow(0, 0, 0)), true},
		"no flow, no leaks":              {unused(2, 0, 5, flow(0, 0, 0)), true},
		"perhaps a flow":                 {unused(2, 1, 5, flow(0, 0, 100)), true},
		"a flow":                         {unused(2, 1, 5, flow(0, 1, 100)), false},
		"a flow at the last step":        {unused(2, 1, 5, flow(0, 0, 100), flow(streets(0), 1, 100)), false},
		"as much as is used at least":    {api.Steps{Uses: []api.Span{span(3, 9)}, Leaks: 1, Least: 5, Steps: []api.Step{flow(0, 1, 3)}}, true},
		"as much as is used at most":     {api.Steps{Uses: []api.Span{span(3, 9)}, Leaks: 1, Least: 5, Steps: []api.Step{flow(0, 9, 11)}}, true},
		"a litre more":                   {api.Steps{Uses: []api.Span{span(3, 9)}, Leaks: 1, Least: 5, Steps: []api.Step{flow(0, 10, 11)}}, false},
		"what is used in an open street": {api.Steps{Uses: []api.Span{span(3, 9), just(2)}, Leaks: 1, Least: 5, Steps: []api.Step{flow(streets(1), 9, 20)}}, true},
		"what is used in a shut street":  {api.Steps{Uses: []api.Span{span(3, 9), just(2)}, Leaks: 1, Least: 5, Steps: []api.Step{flow(streets(1), 10, 20)}}, false},
	} {
		t.Run(name, func(t *testing.T) { checkSound(t, c.s, c.want, api.OK) })
	}
	checkSound(t, example(), false, api.OK)
}

// P10.4: the valve that parts the suspects best, by its index.
func TestNext(t *testing.T) {
	ten := unused(10, 1, 5, flow(0, 7, 9))
	four := unused(10, 1, 5, flow(0, 7, 9), flow(streets(1, 3, 5, 7), 0, 0))
	for name, c := range map[string]struct {
		s           api.Steps
		valves      []int
		valve, left int
	}{
		"one valve":                         {ten, []int{streets(0)}, 0, 9},
		"one valve that parts nothing":      {ten, []int{streets()}, 0, 10},
		"one valve of all":                  {ten, []int{1<<10 - 1}, 0, 10},
		"the last one of three":             {ten, []int{streets(0), streets(0, 1), streets(0, 1, 2)}, 2, 7},
		"the first one of three":            {ten, []int{streets(0, 1, 2), streets(0, 1), streets(0)}, 0, 7},
		"the one between":                   {ten, []int{streets(0), streets(1, 2, 3, 4), streets(3)}, 1, 6},
		"half of them":                      {ten, []int{1<<4 - 1, 1<<6 - 1, 1<<5 - 1, 1<<7 - 1}, 2, 5},
		"of several the first one":          {ten, []int{streets(0), streets(1, 2), streets(3, 4), 1<<8 - 1}, 1, 8},
		"as many in as out":                 {ten, []int{1<<7 - 1, streets(0, 1, 2)}, 0, 7},
		"none parts them":                   {ten, []int{1<<10 - 1, 0}, 0, 10},
		"suspects alone count":              {four, []int{streets(0, 2, 4, 6, 8), streets(1, 3), streets(1, 3, 5, 7)}, 1, 2},
		"others make no difference":         {four, []int{streets(1), streets(0, 2, 3, 4, 7, 9)}, 1, 2},
		"a valve that shuts no suspect":     {four, []int{streets(0, 2), streets(1)}, 1, 3},
		"as many valves as there can be":    {ten, []int{15: streets(4)}, 15, 9},
		"two suspects":                      {unused(3, 1, 5, flow(0, 7, 9), flow(streets(0, 2), 0, 0)), []int{0, streets(0, 1), streets(0)}, 1, 1},
		"suspects that are so by two leaks": {withLeaks(2, 1), []int{streets(0, 1, 2), streets(1, 2)}, 1, 2},
	} {
		t.Run(name, func(t *testing.T) { checkNext(t, c.s, c.valves, c.valve, c.left, api.OK) })
	}
}

// P10.4: ErrNone for fewer than two suspects, or without valves.
func TestNextNone(t *testing.T) {
	for name, c := range map[string]struct {
		s      api.Steps
		valves []int
	}{
		"no valves":                  {firstStep(40, 45), nil},
		"no valves, an empty list":   {firstStep(40, 45), []int{}},
		"one suspect":                {example(), []int{streets(1)}},
		"one suspect, and no valves": {example(), nil},
		"no suspects":                {firstStep(0, 10), []int{streets(1)}},
		"one street":                 {unused(1, 1, 5), []int{streets(0)}},
	} {
		t.Run(name, func(t *testing.T) { checkNext(t, c.s, c.valves, 0, 0, api.ErrNone) })
	}
}
