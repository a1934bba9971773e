package bill

import "meterworks/api"

// dispute is a test of a meter that a house asked for.
type dispute interface {
	// takenOff returns what the test takes off what was used up to a day, by what the meter showed.
	takenOff(day int, shown func(int) int) int
	// fee returns what the house pays for the test.
	fee() int
}

type (
	upheld   api.Dispute
	rejected api.Dispute
)

func asDispute(d api.Dispute) dispute {
	if max(d.Error, -d.Error) > d.Allowed {
		return upheld(d)
	}
	return rejected(d)
}

func (d upheld) takenOff(day int, shown func(int) int) int {
	if d.From >= day {
		return 0
	}
	x := shown(min(d.To, day)) - shown(d.From)
	return x - 1000*x/(1000+d.Error)
}

func (upheld) fee() int { return 0 }

func (rejected) takenOff(int, func(int) int) int { return 0 }

func (d rejected) fee() int { return d.Fee }
