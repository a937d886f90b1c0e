package neutral

import "agonic/api"

const maxDegree = 3

func isUpTo(n, most int) bool { return n >= -most && n <= most }

func isArgument(x api.Ratio) bool {
	return isUpTo(x.Num, MaxNum) && x.Den >= 1 && x.Den <= MaxDen
}

// checkAt returns the error of a polynomial and of arguments.
func checkAt(p []int, arguments ...api.Ratio) api.Errno {
	if e := Check(p); e != api.OK {
		return e
	}
	for _, x := range arguments {
		if !isArgument(x) {
			return api.ErrRange
		}
	}
	return api.OK
}

// checkBetween returns the error of a polynomial and of two arguments in their order.
func checkBetween(p []int, a, b api.Ratio) api.Errno {
	if e := checkAt(p, a, b); e != api.OK {
		return e
	}
	if a.Num*b.Den > b.Num*a.Den {
		return api.ErrOrder
	}
	return api.OK
}
