package curve

import "meterworks/api"

// whole is a whole, in thousandths.
const whole = 1000

// trial is a flow that is tried as the peak, and the marks with the bounds that then hold; the peak is one of them.
type trial struct {
	peak  int
	marks []mark
}

// at returns the bounds of the error at a mark, or at a flow less than Start, where the meter stands still.
func (t trial) at(flow int) api.Span {
	for _, m := range t.marks {
		if m.flow == flow {
			return m.bounds
		}
	}
	return api.Span{Lo: -api.MaxWrong, Hi: -api.MaxWrong}
}

// shown returns what the meter can have shown of draws, in thousandths of a litre.
func (t trial) shown(l []api.Draw) api.Span {
	var sum api.Span
	for _, d := range l {
		e := t.at(d.Flow)
		sum.Lo += d.Litres * (whole + e.Lo)
		sum.Hi += d.Litres * (whole + e.Hi)
	}
	return sum
}

// wholeLitres rounds outward; what is shown is never below 0.
func wholeLitres(thousandths api.Span) api.Span {
	return api.Span{Lo: thousandths.Lo / whole, Hi: (thousandths.Hi + whole - 1) / whole}
}

func flowsOfDraws(l []api.Draw) []int {
	var flows []int
	for _, d := range l {
		flows = append(flows, d.Flow)
	}
	return flows
}
