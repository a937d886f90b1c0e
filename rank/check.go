package rank

import "agonic/api"

func isIndex(i, size int) bool { return i >= 0 && i < size }

// checkOrder returns the error of a month and of an order, whether it is possible or not.
func checkOrder(m []api.Span, order []int) api.Errno {
	if e := Check(m); e != api.OK {
		return e
	}
	if len(order) != len(m) {
		return api.ErrShape
	}
	var seen set
	for _, day := range order {
		if !isIndex(day, len(m)) {
			return api.ErrNone
		}
		if seen.has(day) {
			return api.ErrTwice
		}
		seen = seen.with(day)
	}
	return api.OK
}

// checkFew returns the error of a month whose orders are to be counted.
func checkFew(m []api.Span) api.Errno {
	if e := Check(m); e != api.OK {
		return e
	}
	if len(m) > MaxOrders {
		return api.ErrOver
	}
	return api.OK
}
