package magnet

import "agonic/api"

// mostAreas is how many times the area of a kit the square of a rest is, at most, where rests are counted.
const mostAreas = 2000

func isUpTo(n, most int) bool { return n >= -most && n <= most }

func (v Vector) upTo(most int) bool { return isUpTo(v.X, most) && isUpTo(v.Y, most) }

// checkWith returns the error of a kit, or else of an iron and of choices.
func (k Kit) checkWith(iron Vector, choices ...Choice) api.Errno {
	if e := Check(k); e != api.OK {
		return e
	}
	if !iron.upTo(MaxIron) {
		return api.ErrRange
	}
	for _, c := range choices {
		if !isUpTo(c.I, MaxChoice) || !isUpTo(c.J, MaxChoice) {
			return api.ErrRange
		}
	}
	return api.OK
}
