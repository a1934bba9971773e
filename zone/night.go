package zone

import "meterworks/api"

// leak returns what leaks by night.
func leak(n api.Night) api.Span {
	return api.Span{
		Lo: max(0, n.Flow.Lo-n.Use.Hi) * n.Hours.Lo,
		Hi: max(0, n.Flow.Hi-n.Use.Lo) * n.Hours.Hi,
	}
}

// certain returns how much a zone is known to lose, by what it can lose and by what can leak by night.
func certain(loss, leak api.Span) int { return max(loss.Lo, min(leak.Lo, loss.Hi)) }
