package curve

import (
	"slices"

	"meterworks/api"
)

func flowsOfBands(l []api.Band) []int {
	var flows []int
	for _, b := range l {
		flows = append(flows, b.From, b.To)
	}
	return flows
}

// alwaysKeeps reports whether each curve keeps a band. A curve's least error in a band is at one of the band's ends,
// its greatest one at the flow of the band that is nearest to the peak.
func (l line) alwaysKeeps(b api.Band) bool {
	places := [3]func(peak int) int{
		func(int) int { return b.From },
		func(int) int { return b.To },
		func(peak int) int { return min(max(peak, b.From), b.To) },
	}
	errors := widen(slices.Values(places[:]), func(place func(peak int) int) api.Span {
		return l.widest(func(t trial) api.Span { return t.at(place(t.peak)) })
	})
	return errors.Lo >= -b.Most && errors.Hi <= b.Most
}

// standsWithin reports whether a meter that stands still keeps a band at the flows less than Start.
func (l line) standsWithin(b api.Band) bool { return b.From >= l.start || b.Most == api.MaxWrong }

// within returns what is known of the curves that keep bands from Start on. It is enough to keep them at the marks:
// the ends of the bands are among these, and if the peak lies between two marks, there is a curve that has no greater error there than at one of the two.
func (l line) within(bands []api.Band) line {
	out := line{l.start, l.steep, slices.Clone(l.marks)}
	for _, b := range bands {
		for i, m := range out.marks {
			if m.flow >= b.From && m.flow <= b.To {
				out.marks[i].bounds = meet(m.bounds, errorsWithin(b.Most))
			}
		}
	}
	return out
}
