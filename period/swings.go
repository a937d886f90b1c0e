package period

import (
	"slices"

	"agonic/api"
)

// pair is two passages, the earlier one first.
type pair [2]int

func pairOf(a, b int) pair { return pair{min(a, b), max(a, b)} }

// pairs returns all pairs of passages, in ascending order.
func (l Log) pairs() []pair {
	var all []pair
	for a := range l.Passages {
		for b := a + 1; b < len(l.Passages); b++ {
			all = append(all, pair{a, b})
		}
	}
	return all
}

func (l Log) hasPair(p pair) bool { return slices.Contains(l.pairs(), p) }

// time returns how much time can be between the passages of a pair.
func (l Log) time(p pair) api.Span {
	earlier, later := l.Passages[p[0]], l.Passages[p[1]]
	return api.Span{Lo: later.Lo - earlier.Hi, Hi: later.Hi - earlier.Lo}
}

func (l Log) periods() reach { return reach{whole(l.Period.Lo), whole(l.Period.Hi)} }

// swings is a log with a place for each passage: by how many periods it is later than
// one that has the place 0.
type swings struct {
	Log
	places []int
}

func (l Log) swings(counts []int) swings {
	places := []int{0}
	for i, n := range counts {
		places = append(places, places[i]+n)
	}
	return swings{l, places}
}

// countsOf returns the counts that lead from place to place.
func countsOf(places []int) []int {
	counts := make([]int, len(places)-1)
	copy(counts, places[1:])
	for i := range counts {
		counts[i] -= places[i]
	}
	return counts
}

// count returns how many periods are between the passages of a pair.
func (s swings) count(p pair) int { return s.places[p[1]] - s.places[p[0]] }

// below returns the limit of a pair from below.
func (s swings) below(p pair) fraction { return fraction{s.time(p).Lo, s.count(p)} }

// above returns the limit of a pair from above.
func (s swings) above(p pair) fraction { return fraction{s.time(p).Hi, s.count(p)} }

// bounds returns the first pairs with the greatest limit from below, and the smallest one from above.
func (s swings) bounds() (low, high pair) {
	all := s.pairs()
	low = extreme(all, func(a, b pair) bool { return s.below(a).compare(s.below(b)) > 0 })
	high = extreme(all, func(a, b pair) bool { return s.above(a).compare(s.above(b)) < 0 })
	return low, high
}

// reach returns the periods that one pair allows from below, and another one from above.
func (s swings) reach(low, high pair) reach { return s.periods().cut(s.below(low), s.above(high)) }

// extreme returns the first of several things that no other one beats.
func extreme[T any](things []T, beats func(a, b T) bool) T {
	best := things[0]
	for _, t := range things[1:] {
		if beats(t, best) {
			best = t
		}
	}
	return best
}

func sum(counts []int) int {
	total := 0
	for _, n := range counts {
		total += n
	}
	return total
}
