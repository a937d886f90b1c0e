package pillar

import "agonic/api"

// within reports whether all numbers are from -bound to bound.
func within(numbers []int, bound int) bool {
	for _, n := range numbers {
		if n < -bound || n > bound {
			return false
		}
	}
	return true
}

// checkNumbers returns the error of a list that is to have some numbers, each
// of them as large as a weight at most.
func checkNumbers(numbers []int, count int) api.Errno {
	if len(numbers) != count {
		return api.ErrShape
	}
	if !within(numbers, MaxWeight) {
		return api.ErrRange
	}
	return api.OK
}

// checkReadings returns the error of a plan, or else of its readings.
func checkReadings(p Plan, readings []api.Span) api.Errno {
	if e := Check(p); e != api.OK {
		return e
	}
	if len(readings) != len(p.Rows) {
		return api.ErrShape
	}
	for _, span := range readings {
		if span.Lo < -MaxReading || span.Lo > span.Hi || span.Hi > MaxReading {
			return api.ErrRange
		}
	}
	return api.OK
}

// checkWeights returns the error of weights that are to be a combination.
func checkWeights(p Plan, w Weights) api.Errno {
	if len(w.Of) != len(p.Rows) {
		return api.ErrShape
	}
	if w.Under < 1 || w.Under > MaxWeight || !within(w.Of, MaxWeight) {
		return api.ErrRange
	}
	if !sumsTo(p, w.Of, w.Under) {
		return api.ErrProof
	}
	return api.OK
}

// sumsTo reports whether the sum of weights is a number for the value, and 0 for each error.
func sumsTo(p Plan, of []int, value int) bool {
	var sum [width]int
	for i, row := range p.Rows {
		for j, factor := range row {
			sum[j] += of[i] * factor
		}
	}
	return sum == [width]int{value}
}

// product returns the sum of the products of two lists of one length.
func product(a, b []int) int {
	sum := 0
	for i := range a {
		sum += a[i] * b[i]
	}
	return sum
}

// divisor returns the greatest number that divides all numbers, of which one is not 0.
func divisor(first int, others ...int) int {
	d := max(first, -first)
	for _, n := range others {
		for n != 0 {
			d, n = n, d%n
		}
		d = max(d, -d)
	}
	return d
}

// divide divides all numbers of a list.
func divide(list []int, by int) {
	for i := range list {
		list[i] /= by
	}
}

// fraction returns the reduced form of a fraction.
func fraction(num, den int) api.Ratio {
	d := divisor(num, den)
	return api.Ratio{Num: num / d, Den: den / d}
}

// less reports whether a fraction is less than another one.
func less(num, den, otherNum, otherDen int) bool {
	return num*otherDen < otherNum*den
}
