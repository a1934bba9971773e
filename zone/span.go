package zone

import "meterworks/api"

// each returns the span that span gives for each value.
func each[T any](l []T, span func(T) api.Span) []api.Span {
	out := make([]api.Span, len(l))
	for i, v := range l {
		out[i] = span(v)
	}
	return out
}

// fold puts values together, one after the other.
func fold[T any](two func(a, b T) T, first T, rest ...T) T {
	for _, next := range rest {
		first = two(first, next)
	}
	return first
}

// plus returns the span of a number of a and one of b together.
func plus(a, b api.Span) api.Span { return api.Span{Lo: a.Lo + b.Lo, Hi: a.Hi + b.Hi} }

// less returns the span of a number of a less one of b.
func less(a, b api.Span) api.Span { return api.Span{Lo: a.Lo - b.Hi, Hi: a.Hi - b.Lo} }

// common returns the numbers that are in both spans.
func common(a, b api.Span) api.Span { return api.Span{Lo: max(a.Lo, b.Lo), Hi: min(a.Hi, b.Hi)} }

func isEmpty(s api.Span) bool { return s.Hi < s.Lo }
