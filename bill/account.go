package bill

import (
	"iter"
	"maps"
	"slices"

	"meterworks/api"
)

// account is that of a house.
type account api.Account

// point is what a meter showed on a day.
type point struct{ day, figure int }

// counting returns the notes that count on a day, by their own days.
func (a account) counting(known int) map[int]api.Note {
	out := map[int]api.Note{}
	for _, n := range a.Notes {
		if other, is := out[n.Day]; n.Came <= known && (!is || n.Came > other.Came) {
			out[n.Day] = n
		}
	}
	return out
}

// points gives the points that are known on a day, by their own days.
func (a account) points(known int) iter.Seq[point] {
	return func(yield func(point) bool) {
		if !yield(point{a.Start, a.Figure}) {
			return
		}
		notes := a.counting(known)
		for _, day := range slices.Sorted(maps.Keys(notes)) {
			if !yield(point{day, notes[day].Figure}) {
				return
			}
		}
	}
}

// isInOrderOn reports whether the account is in order on all of some days.
func (a account) isInOrderOn(days ...int) bool {
	isInOrder := true
days:
	for _, day := range days {
		least := a.Figure
		for p := range a.points(day) {
			if p.figure < least {
				isInOrder = false
				break days
			}
			least = p.figure
		}
	}
	return isInOrder
}

// billedUntil returns the account without the bills that are later than a day.
func (a account) billedUntil(day int) account {
	a.Bills = slices.DeleteFunc(slices.Clone(a.Bills), func(b int) bool { return b > day })
	return a
}

// without returns the account without a dispute.
func (a account) without(dispute int) account {
	a.Disputes = slices.Delete(slices.Clone(a.Disputes), dispute, dispute+1)
	return a
}

// What a bill has, until it is written.
const (
	inLitres = iota
	inPence
)

// bills returns all bills. The account has to be in order on their days.
func (a account) bills() []api.Bill {
	var out []api.Bill
	var billed [2]int
	for i, day := range a.Bills {
		known := a.knownOn(day)
		all := [2]int{inLitres: known.used(day), inPence: known.cost(day)}
		b := api.Bill{Litres: all[inLitres] - billed[inLitres], Pence: all[inPence] - billed[inPence]}
		if i > 0 {
			// What was billed before is what it cost up to the bill before, as known then.
			b.Correction = known.cost(a.Bills[i-1]) - billed[inPence]
		}
		out = append(out, b)
		billed = all
	}
	return out
}
