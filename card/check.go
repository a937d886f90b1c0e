package card

import "agonic/api"

func isHeading(h int) bool { return h >= 0 && h < api.Turn }

func isDeviation(d int) bool { return d >= -MaxDeviation && d <= MaxDeviation }

// checkCount returns the error of a number of elements.
func checkCount(count, most int) api.Errno {
	switch {
	case count == 0:
		return api.ErrEmpty
	case count > most:
		return api.ErrMany
	}
	return api.OK
}

// checkOrder returns the error of a heading behind another one.
func checkOrder(before, heading int) api.Errno {
	switch {
	case heading == before:
		return api.ErrTwice
	case heading < before:
		return api.ErrOrder
	}
	return api.OK
}

// checkWith returns the error of a card, or else of a heading.
func (c Card) checkWith(heading int) api.Errno {
	if e := Check(c); e != api.OK {
		return e
	}
	if !isHeading(heading) {
		return api.ErrRange
	}
	return api.OK
}

// check returns the error of the marks, but for truths that are not sound.
func (k Known) check() api.Errno {
	if e := checkCount(len(k), MaxPoints); e != api.OK {
		return e
	}
	before := -1
	for _, m := range k {
		d := m.Deviation
		if !isHeading(m.Heading) || !isDeviation(d.Lo) || !isDeviation(d.Hi) || d.Lo > d.Hi {
			return api.ErrRange
		}
		if e := checkOrder(before, m.Heading); e != api.OK {
			return e
		}
		before = m.Heading
	}
	return api.OK
}
