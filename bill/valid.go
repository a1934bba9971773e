package bill

import "meterworks/api"

func isFrom(n, least, most int) bool { return n >= least && n <= most }

func isDay(n int) bool { return isFrom(n, 0, api.MaxDay) }

func isLitres(n int) bool { return isFrom(n, 0, api.MaxLitres) }

// isDayOf reports whether a number is a day on which there is the account.
func (a account) isDayOf(n int) bool { return isDay(n) && n >= a.Start }

// areAll reports whether all of a list are right.
func areAll[T any](l []T, isRight func(T) bool) bool {
	for _, x := range l {
		if !isRight(x) {
			return false
		}
	}
	return true
}

// followEachOther reports whether each of a list, but for the first one, may come after the one before it.
func followEachOther[T any](l []T, mayFollow func(before, x T) bool) bool {
	for before, x := range pairs(l) {
		if !mayFollow(before, x) {
			return false
		}
	}
	return true
}

func (a account) isValid() bool {
	return isDay(a.Start) && isLitres(a.Figure) && isFrom(a.Daily, 0, api.MaxDaily) && isFrom(a.Standing, 0, api.MaxStanding) &&
		a.hasValidTariffs() && a.hasValidBills() && a.hasValidNotes() && a.hasValidDisputes()
}

func (a account) hasValidTariffs() bool {
	return isFrom(len(a.Tariffs), 1, api.MaxTariffs) && a.Tariffs[0].From == 0 &&
		areAll(a.Tariffs, func(t api.Tariff) bool { return isDay(t.From) && isFrom(t.Pence, 0, api.MaxPrice) }) &&
		followEachOther(a.Tariffs, func(before, t api.Tariff) bool { return t.From > before.From })
}

func (a account) hasValidBills() bool {
	return len(a.Bills) <= api.MaxBills &&
		areAll(a.Bills, func(day int) bool { return isDay(day) && day > a.Start }) &&
		followEachOther(a.Bills, func(before, day int) bool { return day > before })
}

func (a account) hasValidNotes() bool {
	return len(a.Notes) <= api.MaxNotes &&
		areAll(a.Notes, func(n api.Note) bool {
			return n.Day > a.Start && n.Came >= n.Day && isDay(n.Came) && isLitres(n.Figure)
		})
}

func (a account) hasValidDisputes() bool {
	return len(a.Disputes) <= api.MaxDisputes &&
		areAll(a.Disputes, func(d api.Dispute) bool {
			return d.From >= a.Start && d.To > d.From && d.Day >= d.To && isDay(d.Day) &&
				isFrom(d.Error, -api.MaxThou, api.MaxThou) && isFrom(d.Allowed, 0, api.MaxThou) && isFrom(d.Fee, 0, api.MaxFee)
		}) &&
		followEachOther(a.Disputes, func(before, d api.Dispute) bool { return d.From >= before.To })
}

// isContradicted reports whether two notes of the same day that came together show another figure.
func (a account) isContradicted() bool {
	for i, n := range a.Notes {
		for _, other := range a.Notes[:i] {
			if n.Day == other.Day && n.Came == other.Came && n.Figure != other.Figure {
				return true
			}
		}
	}
	return false
}

// errorOfAll returns the errors that come first in each function.
func (a account) errorOfAll() api.Errno {
	switch {
	case !a.isValid():
		return api.ErrArg
	case a.isContradicted():
		return api.ErrTwice
	}
	return api.OK
}

// errorAsKnown returns the errors of what is asked up to a day, as known on another one.
func (a account) errorAsKnown(day, known int) api.Errno {
	if e := a.errorOfAll(); e != api.OK {
		return e
	}
	switch {
	case !isDay(known) || !a.isDayOf(day):
		return api.ErrRange
	case !a.isInOrderOn(known):
		return api.ErrOrder
	}
	return api.OK
}
