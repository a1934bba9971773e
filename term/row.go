package term

import (
	"math/bits"

	"meterworks/api"
)

// standing is how a seal stands on a day, as api counts it.
type standing int

const (
	notYet standing = iota
	sealed
	over
	broken
	standings // how many there are
)

// tally is how many seals stand how.
type tally [standings]int

// seenRow is a row of seals that has been looked at: its end, and how often it was prolonged, by all proofs so far.
type seenRow struct {
	api.Seal
	end, times int
}

func (r *seenRow) size() int { return r.To - r.From + 1 }

func (r *seenRow) has(seal int) bool { return isFrom(seal, r.From, r.To) }

func (r *seenRow) meets(s api.Seal) bool { return r.From <= s.To && s.From <= r.To }

// stands returns how those of its seals stand that are not broken.
func (r *seenRow) stands(day int) standing {
	switch {
	case day < r.Day:
		return notYet
	case day < r.end:
		return sealed
	}
	return over
}

// prove does to a row what a proof of its class does.
func (r *seenRow) prove(p api.Proof, c api.Class) {
	switch {
	case r.stands(p.Day) != sealed:
	case bits.OnesCount(uint(p.Failed)) > c.Fail:
		r.end = p.Day + 1
	case r.times < c.Times:
		r.end += c.More
		r.times++
	}
}
