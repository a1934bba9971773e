package term_test

import (
	"math/rand"

	"meterworks/api"
)

func pick[T any](r *rand.Rand, l ...T) T { return l[r.Intn(len(l))] }

// The numbers and days of small stocks, the last day being one on which nothing happens any more.
const (
	smallSeals = 40
	smallDays  = 40
	lastDay    = 120
)

const never = 1 << 40

// life is what the oracle knows of one seal: the index of its row, its class, and its days.
type life struct{ row, class, day, end, times, broken int }

func (l *life) inForce(day int) bool { return l.day <= day && day < l.end }

// stands goes by the words of the chapter, one after the other.
func (l *life) stands(day int) int {
	switch {
	case day < l.day:
		return api.NotYet
	case l.broken <= day:
		return api.Broken
	case day < l.end:
		return api.Sealed
	}
	return api.Over
}

// lives are what the oracle tells of a stock: each seal by itself, or what is wrong.
type lives struct {
	seals map[int]*life
	index int
	e     api.Errno
}

func wrong(index int, e api.Errno) lives { return lives{index: index, e: e} }

// tell follows each seal from day to day.
func tell(s api.Stock) lives {
	out := lives{seals: map[int]*life{}}
	if hasNoSeal(s) {
		return wrong(0, api.ErrArg)
	}
	for i, r := range s.Seals {
		for n := r.From; n <= r.To; n++ {
			if out.seals[n] != nil {
				return wrong(i, api.ErrTwice)
			}
			out.seals[n] = &life{i, r.Class, r.Day, r.Day + s.Classes[r.Class].Term, 0, never}
		}
	}
	for i, b := range s.Broken {
		l := out.seals[b[0]]
		if l == nil {
			return wrong(i, api.ErrNone)
		}
		if l.broken != never {
			return wrong(i, api.ErrTwice)
		}
		if b[1] < l.day {
			return wrong(i, api.ErrOrder)
		}
		l.broken = b[1]
	}
	for day := range lastDay {
		for i, p := range s.Proofs {
			if p.Day != day {
				continue
			}
			if e := out.proofError(p); e != api.OK {
				return wrong(i, e)
			}
			out.prove(p, s.Classes[p.Class])
		}
	}
	return out
}

// hasNoSeal reports whether a broken seal, or one of a proof, has a number that no row of any stock has.
func hasNoSeal(s api.Stock) bool {
	named := []int{}
	for _, b := range s.Broken {
		named = append(named, b[0])
	}
	for _, p := range s.Proofs {
		named = append(named, p.Seals...)
	}
	for _, n := range named {
		if n < 1 || n > api.MaxSeal {
			return true
		}
	}
	return false
}

func (out lives) proofError(p api.Proof) api.Errno {
	there := map[int]bool{}
	for _, n := range p.Seals {
		l := out.seals[n]
		if l == nil {
			return api.ErrNone
		}
		if l.class != p.Class {
			return api.ErrRefuse
		}
		if there[n] {
			return api.ErrTwice
		}
		if !l.inForce(p.Day) || l.broken <= p.Day {
			return api.ErrState
		}
		there[n] = true
	}
	return api.OK
}

func passes(p api.Proof, c api.Class) bool {
	failed := 0
	for i := range p.Seals {
		failed += p.Failed >> i & 1
	}
	return failed <= c.Fail
}

func (out lives) prove(p api.Proof, c api.Class) {
	for _, l := range out.seals {
		if l.class != p.Class || !l.inForce(p.Day) {
			continue
		}
		if !passes(p, c) {
			l.end = p.Day + 1
		} else if l.times < c.Times {
			l.end += c.More
			l.times++
		}
	}
}

func (out lives) count(day int) []int {
	counts := make([]int, 4)
	for _, l := range out.seals {
		counts[l.stands(day)]++
	}
	return counts
}

func (out lives) due(classes int, days api.Span) []int {
	dues := make([]int, classes)
	for _, l := range out.seals {
		if days.Lo <= l.end && l.end <= days.Hi && l.stands(l.end) != api.Broken {
			dues[l.class]++
		}
	}
	return dues
}

// smallStock returns a stock of small numbers. It is right, but for what is added now and then whether it is right with it or not.
func smallStock(r *rand.Rand, mistakes int) api.Stock {
	var s api.Stock
	for range 1 + r.Intn(3) {
		s.Classes = append(s.Classes, class(1+r.Intn(20), r.Intn(3), 1+r.Intn(12), r.Intn(2)))
	}
	keep := func(more api.Stock) {
		if tell(more).e == api.OK || r.Intn(1000) < mistakes {
			s = more
		}
	}
	for range r.Intn(12) {
		from, more := 1+r.Intn(smallSeals), clone(s)
		more.Seals = append(more.Seals, row(from, min(smallSeals, from+r.Intn(8)), r.Intn(len(s.Classes)), r.Intn(smallDays)))
		keep(more)
	}
	for range r.Intn(8) {
		more := clone(s)
		seal := r.Intn(smallSeals + 2)
		if len(s.Broken) > 0 && r.Intn(5) == 0 {
			seal = s.Broken[r.Intn(len(s.Broken))][0]
		}
		more.Broken = append(more.Broken, [2]int{seal, r.Intn(smallDays + 20)})
		keep(more)
	}
	for range r.Intn(40) {
		more := clone(s)
		if len(more.Proofs) < api.MaxProofs {
			more.Proofs = append(more.Proofs, smallProof(r, s))
			keep(more)
		}
	}
	return s
}

// smallProof returns a proof that has to do with a row of a stock, mostly.
func smallProof(r *rand.Rand, s api.Stock) api.Proof {
	p := proof(r.Intn(len(s.Classes)), r.Intn(smallDays+20), 0)
	first := r.Intn(smallSeals + 2)
	if len(s.Seals) > 0 && r.Intn(10) > 0 {
		of := s.Seals[r.Intn(len(s.Seals))]
		p.Class, p.Day, first = of.Class, of.Day+r.Intn(s.Classes[of.Class].Term+10), of.From
	}
	if len(s.Proofs) > 0 && r.Intn(4) == 0 {
		p.Day = s.Proofs[r.Intn(len(s.Proofs))].Day
	}
	for range 1 + r.Intn(3) {
		p.Seals = append(p.Seals, first)
		first += pick(r, 1, 1, 1, 1, 1, 1, 2, 0, -3)
	}
	p.Failed = r.Intn(1<<len(p.Seals)) & r.Intn(1<<len(p.Seals))
	return p
}
