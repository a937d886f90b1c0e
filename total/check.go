package total

import "agonic/api"

func (n Net) isQuantity(q int) bool { return q >= 0 && q < len(n.Spans) }

func (n Net) isTriangle(t int) bool { return t >= 0 && t < len(n.Triangles) }

// checkTriangle returns the error of a triangle, if those before it have none.
func (n Net) checkTriangle(at int) api.Errno {
	t := n.Triangles[at]
	switch {
	case !n.isQuantity(t.A) || !n.isQuantity(t.B) || !n.isQuantity(t.Whole):
		return api.ErrNone
	case t.A == t.B || t.A == t.Whole || t.B == t.Whole:
		return api.ErrTwice
	}
	before := upTo(at)
	withA, withB := n.connected(t.A, before), n.connected(t.B, before)
	if withA[t.B] || withA[t.Whole] || withB[t.Whole] {
		return api.ErrFold
	}
	return api.OK
}

// checkGroup returns the error of a group of a valid net.
func (n Net) checkGroup(group []int) api.Errno {
	if len(group) == 0 {
		return api.ErrEmpty
	}
	before := -1
	for _, t := range group {
		if !n.isTriangle(t) {
			return api.ErrNone
		}
		if t <= before {
			return api.ErrOrder
		}
		before = t
	}
	if !n.isGroup(group) {
		return api.ErrShape
	}
	return api.OK
}

// upTo returns the numbers from 0 on that are smaller than a count.
func upTo(count int) []int {
	numbers := make([]int, count)
	for i := range numbers {
		numbers[i] = i
	}
	return numbers
}
