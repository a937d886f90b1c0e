package period

import "agonic/api"

// maxRuns is how many runs a path may have.
const maxRuns = 40

func isWithin(s api.Span, least, most int) bool {
	return least <= s.Lo && s.Lo <= s.Hi && s.Hi <= most
}

func isFraction(r api.Ratio) bool {
	return r.Num >= 0 && r.Num <= MaxNum && r.Den >= 1 && r.Den <= MaxNum
}

// checkWith returns the error of a log, or else of counts, but for counts that are not possible.
func (l Log) checkWith(counts []int) api.Errno {
	if e := Check(l); e != api.OK {
		return e
	}
	if len(counts) != len(l.Passages)-1 {
		return api.ErrShape
	}
	for _, n := range counts {
		if n < 1 || n > MaxTime {
			return api.ErrRange
		}
	}
	return api.OK
}

// checkPath returns the error of a path, but for one that leads too far.
func checkPath(path []int) api.Errno {
	if len(path) > maxRuns {
		return api.ErrMany
	}
	for _, moves := range path {
		if moves < 0 || moves > MaxNum {
			return api.ErrRange
		}
	}
	for i, moves := range path {
		if moves == 0 && (i > 0 || len(path) == 1) {
			return api.ErrOrder
		}
	}
	return api.OK
}
