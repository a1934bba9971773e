package bill

import (
	"iter"
	"slices"

	"meterworks/api"
)

// knowledge is what is known of an account on a day.
type knowledge struct {
	account
	disputes []dispute
	// shown says what the meter showed on a day.
	shown func(day int) int
}

// knownOn returns what is known on a day, on which the account has to be in order.
func (a account) knownOn(known int) knowledge {
	var line []point
	for p := range a.points(known) {
		line = append(line, p)
	}
	if len(line) == 1 {
		// Where no note is known, a first day with Daily litres stands for how the meter turns from then on.
		line = append(line, point{a.Start + 1, a.Figure + a.Daily})
	}
	return knowledge{a, a.disputesOn(known), func(day int) int {
		end := 1
		for end < len(line)-1 && line[end].day < day {
			end++
		}
		return line[end-1].onTheWayTo(line[end], day)
	}}
}

// onTheWayTo returns what a meter showed on a day, if it turned evenly from one point to the other one, and after it.
func (p point) onTheWayTo(end point, day int) int {
	return p.figure + (end.figure-p.figure)*(day-p.day)/(end.day-p.day)
}

func (a account) disputesOn(known int) []dispute {
	var out []dispute
	for _, d := range a.Disputes {
		if d.Day <= known {
			out = append(out, asDispute(d))
		}
	}
	return out
}

func (k knowledge) used(day int) int {
	out := k.shown(day) - k.Figure
	for _, d := range k.disputes {
		out -= d.takenOff(day, k.shown)
	}
	return out
}

func (k knowledge) cost(day int) int {
	out := k.Standing * (day - k.Start)
	for t, next := range pairs(slices.Concat(k.Tariffs, []api.Tariff{{From: day}})) {
		if from, until := max(t.From, k.Start), min(next.From, day); from < until {
			out += (k.used(until) - k.used(from)) * t.Pence / 1000
		}
	}
	for _, d := range k.disputes {
		out += d.fee()
	}
	return out
}

// pairs gives each of a list, but for the last one, with the one after it.
func pairs[T any](l []T) iter.Seq2[T, T] {
	return func(yield func(T, T) bool) {
		for i := 1; i < len(l); i++ {
			if !yield(l[i-1], l[i]) {
				return
			}
		}
	}
}
