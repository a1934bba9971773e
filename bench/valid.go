package bench

import "meterworks/api"

// isBench reports whether a bench of either kind can be so.
func isBench(b api.Bench) bool {
	return isTable(b.Table) && b.Off >= 0 && b.Off <= api.MaxValue &&
		isSpan(b.Buoy, 0, api.MaxBuoy) && isSpan(b.Air, 0, api.MaxValue)
}

func isTable(marks []api.Mark) bool {
	if len(marks) < 2 || len(marks) > api.MaxTable {
		return false
	}
	for i, m := range marks {
		if m.At < 0 || m.At > api.MaxAt || m.Value < 1 || m.Value > api.MaxValue {
			return false
		}
		if i > 0 && m.At <= marks[i-1].At {
			return false
		}
	}
	return true
}

func isSpan(s api.Span, least, most int) bool { return s.Lo >= least && s.Lo <= s.Hi && s.Hi <= most }

func isIndex(i int, row []api.Span) bool { return i >= 0 && i < len(row) }

// rowError returns what is wrong with what the meters of a row showed.
func rowError(row []api.Span) api.Errno {
	if len(row) > api.MaxRow {
		return api.ErrLong
	}
	for _, shown := range row {
		if !isSpan(shown, 0, api.MaxLitres) {
			return api.ErrRange
		}
	}
	return api.OK
}
