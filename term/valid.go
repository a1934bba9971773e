package term

import "meterworks/api"

func isFrom(n, least, most int) bool { return n >= least && n <= most }

func isDay(n int) bool { return isFrom(n, 0, api.MaxDay) }

// isSeal reports whether a row can have a seal with this number.
func isSeal(n int) bool { return isFrom(n, 1, api.MaxSeal) }

func isStock(s api.Stock) bool {
	if len(s.Classes) > api.MaxClasses || len(s.Seals) > api.MaxSeals ||
		len(s.Proofs) > api.MaxProofs || len(s.Broken) > api.MaxBroken {
		return false
	}
	for _, c := range s.Classes {
		if !isClass(c) {
			return false
		}
	}
	for _, r := range s.Seals {
		if !isRow(r, len(s.Classes)) {
			return false
		}
	}
	for _, p := range s.Proofs {
		if !isProof(p, len(s.Classes)) {
			return false
		}
	}
	for _, b := range s.Broken {
		if !isSeal(b[0]) || !isDay(b[1]) {
			return false
		}
	}
	return true
}

func isClass(c api.Class) bool {
	return isFrom(c.Term, 1, api.MaxTerm) && isFrom(c.More, 1, api.MaxTerm) &&
		isFrom(c.Times, 0, api.MaxTimes) && isFrom(c.Fail, 0, api.MaxSample)
}

func isRow(s api.Seal, classes int) bool {
	return isSeal(s.From) && isSeal(s.To) && s.From <= s.To && isFrom(s.Class, 0, classes-1) && isDay(s.Day)
}

func isProof(p api.Proof, classes int) bool {
	if !isFrom(len(p.Seals), 1, api.MaxSample) {
		return false
	}
	for _, seal := range p.Seals {
		if !isSeal(seal) {
			return false
		}
	}
	return isFrom(p.Class, 0, classes-1) && isDay(p.Day) && isFrom(p.Failed, 0, 1<<len(p.Seals)-1)
}
