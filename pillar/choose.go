package pillar

import (
	"iter"

	"agonic/api"
)

// chosen yields the rows of a set, which has a bit for each row.
func chosen(set int) iter.Seq[int] {
	return func(yield func(int) bool) {
		for row := range MaxRows {
			if set>>row&1 == 1 && !yield(row) {
				return
			}
		}
	}
}

// everyRow yields all rows of a plan.
func everyRow(p Plan) iter.Seq[int] {
	return chosen(1<<len(p.Rows) - 1)
}

// choices yields what each set of rows reduces to.
func choices(p Plan) iter.Seq[reduced] {
	return func(yield func(reduced) bool) {
		for set := range 1 << len(p.Rows) {
			if !yield(reduce(p, chosen(set))) {
				return
			}
		}
	}
}

// combinations yields the combinations of sets of rows. The ends of the value are
// those of some of them: an optimal combination need not use dependent rows, since
// along a dependency its bound changes linearly until a weight becomes 0.
func combinations(p Plan) iter.Seq[Weights] {
	return func(yield func(Weights) bool) {
		for r := range choices(p) {
			if w, found := r.combination(); found && !yield(w) {
				return
			}
		}
	}
}

// best returns the first item that no other one beats, if there is an item.
func best[T any](items iter.Seq[T], beats func(a, b T) bool) (T, bool) {
	var top T
	found := false
	for item := range items {
		if !found || beats(item, top) {
			top, found = item, true
		}
	}
	return top, found
}

// clashOf returns a clash, if there is one. Every clash is a sum of dependencies of
// the fewest rows that agree in their signs, so that one of these is a clash, too.
func clashOf(p Plan, readings []api.Span) ([]int, bool) {
	for r := range choices(p) {
		if of, found := r.dependency(); found && excludesZero(of, readings) {
			return of, true
		}
	}
	return nil, false
}

// reach returns the smallest and the greatest sum of weights times readings.
func reach(of []int, readings []api.Span) (low, high int) {
	for i, span := range readings {
		a, b := of[i]*span.Lo, of[i]*span.Hi
		low += min(a, b)
		high += max(a, b)
	}
	return low, high
}

// excludesZero reports whether 0 is not in the reach of weights.
func excludesZero(of []int, readings []api.Span) bool {
	low, high := reach(of, readings)
	return low > 0 || high < 0
}
