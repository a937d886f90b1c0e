package chart

import "slices"

// plan is the points of the stations of a chart, by their indices.
type plan []point

func (c Chart) plan() plan {
	var p plan
	for _, s := range c {
		p = append(p, s.point())
	}
	return p
}

func (p plan) corners(t Triangle) corners { return corners{p[t[0]], p[t[1]], p[t[2]]} }

// first returns the index of the first element that fits, if there is one.
func first[T any](list []T, fits func(T) bool) (int, bool) {
	for i, element := range list {
		if fits(element) {
			return i, true
		}
	}
	return 0, false
}

// triples yields all three stations that are not on one line, with their points; the
// order is that of their greatest indices.
func (p plan) triples(yield func(Triangle, corners) bool) {
	for c := range p {
		for b := range c {
			for a := range b {
				t := Triangle{a, b, c}
				if at := p.corners(t); !at.areFlat() && !yield(t, at) {
					return
				}
			}
		}
	}
}

// isFlat reports whether all stations are on one line.
func (p plan) isFlat() bool {
	for range p.triples {
		return false
	}
	return true
}

func (t Triangle) compare(o Triangle) int { return slices.Compare(t[:], o[:]) }

func (p plan) triangles() []Triangle {
	var triangles []Triangle
	for t, at := range p.triples {
		if !slices.ContainsFunc(p, at.encloses) {
			triangles = append(triangles, t)
		}
	}
	slices.SortFunc(triangles, Triangle.compare)
	return triangles
}

// isClear reports whether no other station is on the circle of a triangle.
func (p plan) isClear() bool {
	for _, t := range p.triangles() {
		at := p.corners(t)
		for i, station := range p {
			if at.circle(station) == 0 && !slices.Contains(t[:], i) {
				return false
			}
		}
	}
	return true
}

// borders reports whether a way leads from one station of the rim to the next one: no
// station is to the right of it, and none between them.
func (p plan) borders(from, to point) bool {
	_, found := first(p, func(s point) bool {
		turn := from.turn(to, s)
		return turn < 0 || turn == 0 && s.product(from, to) < 0
	})
	return from != to && !found
}

// rim returns the stations of the rim; not all stations are on one line.
func (p plan) rim() []int {
	start, _ := first(p, func(from point) bool {
		return slices.ContainsFunc(p, func(to point) bool { return p.borders(from, to) })
	})
	var rim []int
	at := start
walk:
	for {
		rim = append(rim, at)
		for next, to := range p {
			switch {
			case !p.borders(p[at], to):
				continue
			case next == start:
				break walk
			}
			at = next
			continue walk
		}
	}
	return rim
}
