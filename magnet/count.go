package magnet

// count returns how many choices leave a rest with at most some square; of a reduced kit
// it takes few rows. The square of A times that of a rest is the sum of the squares of
// their product, which grows along a row, and of their area, which grows from row to row.
func (k Kit) count(iron Vector, square int) int {
	step := k.B
	if k.A.turn(step) < 0 {
		step = step.times(-1)
	}
	a := k.A.square()
	most, count := a*square, 0
	low, high := reach(k.A.turn(iron), k.A.turn(step), root(most))
	for row := low; row <= high; row++ {
		rest := iron.plus(step.times(row))
		area := k.A.turn(rest)
		first, last := reach(k.A.product(rest), a, root(most-area*area))
		count += last - first + 1
	}
	return count
}

// reach returns the first and the last number of steps that lead to a number from -most to
// most. If there are none, the last one is 1 below the first one.
func reach(from, step, most int) (first, last int) {
	return -floor(most+from, step), floor(most-from, step)
}
