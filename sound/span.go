package sound

import "meterworks/api"

// cut returns what a span and all others have in common.
func cut(s api.Span, others ...api.Span) api.Span {
	for _, o := range others {
		s = api.Span{Lo: max(s.Lo, o.Lo), Hi: min(s.Hi, o.Hi)}
	}
	return s
}

func isEmpty(s api.Span) bool { return s.Hi < s.Lo }

// nearest returns the number of a span that is nearest to another number.
func nearest(s api.Span, n int) int { return min(max(n, s.Lo), s.Hi) }
