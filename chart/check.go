package chart

import "agonic/api"

func isUpTo(n, most int) bool { return n >= -most && n <= most }

func isPlace(x, y int) bool { return isUpTo(x, MaxPlace) && isUpTo(y, MaxPlace) }

func arePlaces(stations ...Station) bool {
	for _, s := range stations {
		if !isPlace(s.X, s.Y) {
			return false
		}
	}
	return true
}

func isVariation(s api.Span) bool {
	return isUpTo(s.Lo, MaxVariation) && isUpTo(s.Hi, MaxVariation) && s.Lo <= s.Hi
}

// check returns the error of indices of so many stations.
func (t Triangle) check(count int) api.Errno {
	before := -1
	for _, station := range t {
		if station < 0 || station >= count {
			return api.ErrNone
		}
		if station <= before {
			return api.ErrTwice
		}
		before = station
	}
	return api.OK
}
