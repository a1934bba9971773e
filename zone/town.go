package zone

import (
	"iter"
	"slices"

	"meterworks/api"
)

// known is what is known of the loss of a zone: what it can lose alone, with its parts, their parts and so on, and what in a truth of all zones.
type known struct{ alone, loss api.Span }

// town is a list of zones, and what is known of them.
type town struct {
	zones []api.Zone
	known [api.MaxZones]known
}

// parts gives the parts of a zone, or with NoZone the zones that are a part of none.
func (t *town) parts(zone int) iter.Seq[int] {
	return func(yield func(int) bool) {
		for i, z := range t.zones {
			if z.Part == zone && !yield(i) {
				return
			}
		}
	}
}

// hasParts reports whether a zone has parts.
func (t *town) hasParts(zone int) bool {
	for range t.parts(zone) {
		return true
	}
	return false
}

// noTruth is what ends a search: a zone that alone has no truth.
type noTruth struct{ zone int }

// wrong finds what each zone can lose alone. It returns the last zone that alone has no truth, or NoZone.
// A part comes after what it is a part of, so that from the last zone on the parts of each are known before it.
func (t *town) wrong() (last int) {
	defer func() {
		if none, ok := recover().(noTruth); ok {
			last = none.zone
		}
	}()
	for i := range slices.Backward(t.zones) {
		t.known[i].alone = t.alone(i)
	}
	return api.NoZone
}

// alone returns what a zone can lose by its own span and by its parts. If that is nothing, the search ends.
func (t *town) alone(zone int) api.Span {
	s := own(t.zones[zone])
	if parts := t.partsAlone(zone, api.NoZone); len(parts) > 0 {
		s = fold(common, s, fold(plus, parts[0], parts[1:]...))
	}
	if isEmpty(s) {
		panic(noTruth{zone})
	}
	return s
}

// partsAlone returns what each part of a zone can lose alone, but for one that is left out.
func (t *town) partsAlone(zone, out int) []api.Span {
	var l []api.Span
	for part := range t.parts(zone) {
		if part != out {
			l = append(l, t.known[part].alone)
		}
	}
	return l
}

// narrow finds what each zone can lose in a truth of all zones. It needs what each can lose alone.
// What a part can lose depends on what the whole can lose, so that the whole is visited before its parts.
func (t *town) narrow() {
	var visit func(whole int)
	visit = func(whole int) {
		for part := range t.parts(whole) {
			t.known[part].loss = t.share(part)
			visit(part)
		}
	}
	visit(api.NoZone)
}

// share returns what a zone can lose if the whole loses what it can: what the other parts leave of this.
func (t *town) share(zone int) api.Span {
	whole, alone := t.zones[zone].Part, t.known[zone].alone
	if whole == api.NoZone {
		return alone
	}
	return fold(common, alone, fold(less, t.known[whole].loss, t.partsAlone(whole, zone)...))
}
