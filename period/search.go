package period

import (
	"cmp"
	"iter"
	"slices"

	"agonic/api"
)

// search gives places to the passages of a log, in some order, beginning with the place 0.
type search struct {
	swings
	order []int
}

// search returns a search with the narrowest passages first. A passage that is as wide as
// the period rules nothing out: if it came before narrower ones, what they rule out would
// be tried with each of its places.
func (l Log) search() *search {
	var order []int
	for i := range l.Passages {
		order = append(order, i)
	}
	slices.SortStableFunc(order, func(a, b int) int { return cmp.Compare(width(l.Passages[a]), width(l.Passages[b])) })
	return &search{swings{l, make([]int, len(order))}, order}
}

func width(s api.Span) int { return s.Hi - s.Lo }

// all yields the places of all passages, for all counts that are possible with the places
// that so many passages have, which leave some periods. The search goes on with the list
// that is yielded.
func (s *search) all(placed int, periods reach) iter.Seq[[]int] {
	return func(yield func([]int) bool) {
		if placed == len(s.order) {
			yield(s.places)
			return
		}
		for left := range s.next(placed, periods) {
			for places := range s.all(placed+1, left) {
				if !yield(places) {
					return
				}
			}
		}
	}
}

// next gives the next passage each place at which some periods are left, and yields these.
func (s *search) next(placed int, periods reach) iter.Seq[reach] {
	first, passage := s.order[0], s.order[placed]
	side := cmp.Compare(passage, first)
	fewest, most := periods.counts(s.time(pairOf(first, passage)))
	return func(yield func(reach) bool) {
		for n := fewest; n <= most; n++ {
			s.places[passage] = side * n
			if left, some := s.narrowed(placed, periods); some && !yield(left) {
				return
			}
		}
	}
}

// narrowed returns the periods that are left by the next passage and those before it in
// the order, if there are some.
func (s *search) narrowed(placed int, periods reach) (reach, bool) {
	for _, other := range s.order[:placed] {
		p := pairOf(other, s.order[placed])
		if s.count(p) < 1 {
			return reach{}, false
		}
		periods = periods.cut(s.below(p), s.above(p))
	}
	return periods, !periods.isEmpty()
}
