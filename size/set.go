package size

import (
	"math/bits"

	"meterworks/api"
)

// tapSet is a set of taps, by bits.
type tapSet int

func (s tapSet) has(tap int) bool { return s>>tap&1 == 1 }

// keeps reports whether a set has at most as many taps of each rule as may be open.
func (s tapSet) keeps(rules ...api.Rule) bool {
	for _, r := range rules {
		if bits.OnesCount(uint(s)&uint(r.Taps)) > r.Most {
			return false
		}
	}
	return true
}

// load is what a set takes, and how much pressure it needs.
type load struct {
	flow api.Span
	need int
}

func (l load) with(t api.Tap) load {
	return load{
		flow: api.Span{Lo: l.flow.Lo + t.Flow.Lo, Hi: l.flow.Hi + t.Flow.Hi},
		need: max(l.need, t.Need),
	}
}

// loads are the loads of all sets that can be open together.
type loads map[tapSet]load

func (s tapSet) load(taps []api.Tap) load {
	var l load
	for i, t := range taps {
		if s.has(i) {
			l = l.with(t)
		}
	}
	return l
}

// least returns what a set takes if each of its taps takes as little as it can.
func (s tapSet) least(l loads) int { return l[s].flow.Lo }

// most returns what a set takes if each of its taps takes as much as it can.
func (s tapSet) most(l loads) int { return l[s].flow.Hi }

func (s tapSet) need(l loads) int { return l[s].need }
