package step

import "meterworks/api"

// span is a span that can be empty, or below 0.
type span api.Span

func (s span) isEmpty() bool { return s.Hi < s.Lo }

// plus returns the span of a number of s and one of o together.
func (s span) plus(o span) span { return span{Lo: s.Lo + o.Lo, Hi: s.Hi + o.Hi} }

// less returns the span of a number of s less one of o.
func (s span) less(o span) span { return span{Lo: s.Lo - o.Hi, Hi: s.Hi - o.Lo} }

// joined returns the least span that contains both.
func (s span) joined(o span) span { return span{Lo: min(s.Lo, o.Lo), Hi: max(s.Hi, o.Hi)} }

// cut returns what is left of a span by the spans that some values have.
func cut[T any](s span, spanOf func(T) span, values ...T) span {
	for _, v := range values {
		by := spanOf(v)
		s = span{Lo: max(s.Lo, by.Lo), Hi: min(s.Hi, by.Hi)}
	}
	return s
}
