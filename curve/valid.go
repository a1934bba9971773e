package curve

import "meterworks/api"

func isCurve(c api.Curve) bool {
	if !isFlow(c.Start) || c.Steep < 0 || c.Steep > api.MaxWrong || len(c.Points) > api.MaxPoints {
		return false
	}
	for i, p := range c.Points {
		if p.Flow < c.Start || p.Flow > api.MaxFlow || !areErrors(p.Error) {
			return false
		}
		if i > 0 && p.Flow <= c.Points[i-1].Flow {
			return false
		}
	}
	return true
}

func isFlow(flow int) bool { return flow >= 0 && flow <= api.MaxFlow }

func areErrors(s api.Span) bool {
	return s.Lo >= -api.MaxWrong && s.Lo <= s.Hi && s.Hi <= api.MaxWrong
}

func isDraw(d api.Draw) bool {
	return isFlow(d.Flow) && d.Litres >= 0 && d.Litres <= api.MaxLitres
}

func isBand(b api.Band) bool {
	return isFlow(b.From) && isFlow(b.To) && b.From <= b.To && b.Most >= 0 && b.Most <= api.MaxWrong
}

// all reports whether something is so for each item of a list.
func all[T any](list []T, so func(T) bool) bool {
	for _, item := range list {
		if !so(item) {
			return false
		}
	}
	return true
}
