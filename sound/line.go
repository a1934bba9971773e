package sound

import (
	"iter"

	"meterworks/api"
)

// line is pipes, one after the other.
type line []api.Pipe

// pipes gives each pipe, by its number, with its places on the line.
func (l line) pipes() iter.Seq2[int, api.Span] {
	return func(yield func(int, api.Span) bool) {
		begin := 0
		for i, p := range l {
			places := api.Span{Lo: begin, Hi: begin + p.Length}
			if !yield(i, places) {
				return
			}
			begin = places.Hi
		}
	}
}

// places returns all places of a line.
func (l line) places() api.Span {
	var all api.Span
	for _, places := range l.pipes() {
		all.Hi = places.Hi
	}
	return all
}

// stretches returns what each pipe has of some places.
func (l line) stretches(places api.Span) []api.Stretch {
	var out []api.Stretch
	for i, all := range l.pipes() {
		if some := cut(places, all); !isEmpty(some) {
			out = append(out, api.Stretch{Pipe: i, From: some.Lo - all.Lo, To: some.Hi - all.Lo})
		}
	}
	return out
}

// slows returns the numbers that the pipes can have.
func (l line) slows() []api.Span {
	out := make([]api.Span, len(l))
	for i, p := range l {
		out[i] = p.Slow
	}
	return out
}
