package baseline

import "agonic/api"

func isDrift(n int) bool { return n >= 0 && n <= MaxDrift }

func isHour(n int) bool { return n >= 0 && n <= MaxHour }

func isValue(v api.Span) bool { return -MaxValue <= v.Lo && v.Lo <= v.Hi && v.Hi <= MaxValue }

// isIndex reports whether a number is the index of an absolute.
func (s Sheet) isIndex(n int) bool { return n >= 0 && n < len(s.Absolutes) }

// checkSteps returns the error of a sheet, or else of a list of steps.
func checkSteps(s Sheet, steps []int) api.Errno {
	if e := Check(s); e != api.OK {
		return e
	}
	if len(steps) > MaxSteps {
		return api.ErrMany
	}
	before := -1
	for _, step := range steps {
		if !isHour(step) {
			return api.ErrRange
		}
		if step <= before {
			return api.ErrOrder
		}
		before = step
	}
	return api.OK
}
