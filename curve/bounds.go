package curve

import (
	"iter"

	"meterworks/api"
)

// mark is a flow from Start on, and the bounds of the error there.
type mark struct {
	flow   int
	bounds api.Span
}

// step carries bounds over from one flow to another: ends tells what the lesser and the greater end become
// if the error can change by so much between the two.
type step struct {
	steep int
	ends  [2]func(end, change int) int
}

// towardPeak is the step for which the error never falls.
func towardPeak(steep int) step { return step{steep, [2]func(end, change int) int{stay, add}} }

// fromPeak is the step for which the error never rises.
func fromPeak(steep int) step { return step{steep, [2]func(end, change int) int{subtract, stay}} }

func stay(end, _ int) int { return end }

func add(end, change int) int { return end + change }

func subtract(end, change int) int { return end - change }

func (s step) carry(bounds api.Span, flows int) api.Span {
	change := s.steep * flows
	return api.Span{Lo: s.ends[0](bounds.Lo, change), Hi: s.ends[1](bounds.Hi, change)}
}

// run goes from mark to mark, up or down, and adds to the bounds of each what carries over from the one before it.
// It ends before the first mark at which no error is left.
func run(marks []mark, carry func(bounds api.Span, flows int) api.Span) []mark {
	var out []mark
	for i, m := range marks {
		if i > 0 {
			last := out[i-1]
			m.bounds = meet(m.bounds, carry(last.bounds, max(m.flow-last.flow, last.flow-m.flow)))
		}
		if isEmpty(m.bounds) {
			break
		}
		out = append(out, m)
	}
	return out
}

// errorsWithin returns the errors that are wrong by at most so many thousandths.
func errorsWithin(most int) api.Span { return api.Span{Lo: -most, Hi: most} }

func meet(a, b api.Span) api.Span { return api.Span{Lo: max(a.Lo, b.Lo), Hi: min(a.Hi, b.Hi)} }

func isEmpty(s api.Span) bool { return s.Lo > s.Hi }

// widen returns the least span that contains those of all items.
func widen[T any](items iter.Seq[T], spanOf func(T) api.Span) api.Span {
	var wide api.Span
	found := false
	for item := range items {
		s := spanOf(item)
		if found {
			s = api.Span{Lo: min(wide.Lo, s.Lo), Hi: max(wide.Hi, s.Hi)}
		}
		wide, found = s, true
	}
	return wide
}
