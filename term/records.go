package term

import (
	"cmp"
	"iter"
	"slices"

	"meterworks/api"
)

// records are a stock as far as it has been looked at: its rows, and on which day each broken seal was broken.
type records struct {
	stock  api.Stock
	rows   []*seenRow
	broken map[int]int
}

// recordsOf looks at a stock. Each check enters what it has found right, and so the next one can go by it.
func recordsOf(s api.Stock) (r *records, index int, e api.Errno) {
	if !isStock(s) {
		return nil, 0, api.ErrArg
	}
	r = &records{stock: s, broken: map[int]int{}}
	checks := []func() (index int, e api.Errno){r.enterRows, r.enterBroken, r.enterProofs}
	for _, check := range checks {
		if index, e := check(); e != api.OK {
			return nil, index, e
		}
	}
	return r, 0, api.OK
}

func (r *records) enterRows() (index int, e api.Errno) {
	for i, s := range r.stock.Seals {
		for _, row := range r.rows {
			if row.meets(s) {
				return i, api.ErrTwice
			}
		}
		r.rows = append(r.rows, &seenRow{Seal: s, end: s.Day + r.stock.Classes[s.Class].Term})
	}
	return 0, api.OK
}

func (r *records) enterBroken() (index int, e api.Errno) {
	for i, b := range r.stock.Broken {
		seal, day := b[0], b[1]
		row := r.rowOf(seal)
		_, before := r.broken[seal]
		switch {
		case row == nil:
			return i, api.ErrNone
		case before:
			return i, api.ErrTwice
		case day < row.Day:
			return i, api.ErrOrder
		}
		r.broken[seal] = day
	}
	return 0, api.OK
}

func (r *records) enterProofs() (index int, e api.Errno) {
	for i, p := range r.happenings() {
		if e := r.proofError(p); e != api.OK {
			return i, e
		}
		for _, row := range r.rows {
			if row.Class == p.Class {
				row.prove(p, r.stock.Classes[p.Class])
			}
		}
	}
	return 0, api.OK
}

// happenings gives the proofs as they come, by their days, each with its index in the list.
func (r *records) happenings() iter.Seq2[int, api.Proof] {
	return func(yield func(int, api.Proof) bool) {
		proofs := r.stock.Proofs
		for _, i := range inOrder(proofs, func(p api.Proof) int { return p.Day }) {
			if !yield(i, proofs[i]) {
				return
			}
		}
	}
}

// inOrder returns the indices of a list by their keys, those with the same key as they are in the list.
func inOrder[T any, K cmp.Ordered](list []T, key func(T) K) []int {
	indices := make([]int, len(list))
	for i := range list {
		indices[i] = i
	}
	slices.SortStableFunc(indices, func(a, b int) int { return cmp.Compare(key(list[a]), key(list[b])) })
	return indices
}

// proofError returns what is wrong with a proof, after all that came before it.
func (r *records) proofError(p api.Proof) api.Errno {
	for i, seal := range p.Seals {
		row := r.rowOf(seal)
		switch {
		case row == nil:
			return api.ErrNone
		case row.Class != p.Class:
			return api.ErrRefuse
		case slices.Contains(p.Seals[:i], seal):
			return api.ErrTwice
		case r.stands(row, seal, p.Day) != sealed:
			return api.ErrState
		}
	}
	return api.OK
}

// rowOf returns the row that has a seal, nil if there is none.
func (r *records) rowOf(seal int) *seenRow {
	for _, row := range r.rows {
		if row.has(seal) {
			return row
		}
	}
	return nil
}

// stands returns how a seal of a row stands on a day.
func (r *records) stands(row *seenRow, seal, day int) standing {
	if since, ok := r.broken[seal]; ok && since <= day {
		return broken
	}
	return row.stands(day)
}

// unbroken returns how many seals of a row are not broken on a day.
func (r *records) unbroken(row *seenRow, day int) int {
	n := row.size()
	for seal, since := range r.broken {
		if row.has(seal) && since <= day {
			n--
		}
	}
	return n
}

func (r *records) count(day int) tally {
	var t tally
	for _, row := range r.rows {
		whole := r.unbroken(row, day)
		t[row.stands(day)] += whole
		t[broken] += row.size() - whole
	}
	return t
}

func (r *records) due(days api.Span) []int {
	out := make([]int, len(r.stock.Classes))
	for _, row := range r.rows {
		if isFrom(row.end, days.Lo, days.Hi) {
			out[row.Class] += r.unbroken(row, row.end)
		}
	}
	return out
}
