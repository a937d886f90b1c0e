package total

import (
	"iter"
	"slices"
)

func (t Triangle) quantities() [3]int { return [3]int{t.A, t.B, t.Whole} }

// factor returns how the square of one of a triangle's quantities enters into
// the sum of the legs' squares, less that of the whole.
func (t Triangle) factor(quantity int) int {
	if quantity == t.Whole {
		return -1
	}
	return 1
}

// belonging returns which of some triangles each quantity belongs to.
func (n Net) belonging(triangles []int) map[int][]int {
	of := map[int][]int{}
	for _, t := range triangles {
		for _, q := range n.Triangles[t].quantities() {
			of[q] = append(of[q], t)
		}
	}
	return of
}

// connected returns the quantities that some triangles connect with one, and this one.
func (n Net) connected(quantity int, triangles []int) map[int]bool {
	of := n.belonging(triangles)
	found := map[int]bool{}
	var visit func(q int)
	visit = func(q int) {
		if found[q] {
			return
		}
		found[q] = true
		for _, t := range of[q] {
			for _, other := range n.Triangles[t].quantities() {
				visit(other)
			}
		}
	}
	visit(quantity)
	return found
}

// isGroup reports whether one or more triangles are a group.
func (n Net) isGroup(triangles []int) bool {
	for _, sharing := range n.belonging(triangles) {
		if len(sharing) > 2 {
			return false
		}
	}
	linked := n.connected(n.Triangles[triangles[0]].A, triangles)
	return !slices.ContainsFunc(triangles, func(t int) bool { return !linked[n.Triangles[t].A] })
}

// groups yields all groups.
func (n Net) groups() iter.Seq[[]int] {
	return func(yield func([]int) bool) {
		for chosen := 1; chosen < 1<<len(n.Triangles); chosen++ {
			var triangles []int
			for t := range n.Triangles {
				if chosen>>t&1 == 1 {
					triangles = append(triangles, t)
				}
			}
			if n.isGroup(triangles) && !yield(triangles) {
				return
			}
		}
	}
}

// signs returns whether each triangle of a group is added (1) or subtracted (-1),
// so that quantities in two of them cancel.
func (n Net) signs(group []int) map[int]int {
	of := n.belonging(group)
	signs := map[int]int{}
	var set func(t, sign int)
	set = func(t, sign int) {
		if signs[t] != 0 {
			return
		}
		signs[t] = sign
		for _, q := range n.Triangles[t].quantities() {
			for _, other := range of[q] {
				set(other, -sign*n.Triangles[t].factor(q)*n.Triangles[other].factor(q))
			}
		}
	}
	set(group[0], 1)
	return signs
}

// equation returns the equation of a group.
func (n Net) equation(group []int) []int {
	signs := n.signs(group)
	coefficients := make([]int, len(n.Spans))
	for _, t := range group {
		for _, q := range n.Triangles[t].quantities() {
			coefficients[q] += signs[t] * n.Triangles[t].factor(q)
		}
	}
	// There is an end: without rings, triangles in a row share fewer quantities than they have.
	first := slices.IndexFunc(coefficients, func(c int) bool { return c != 0 })
	lead := coefficients[first]
	for q := range coefficients {
		coefficients[q] *= lead
	}
	return coefficients
}
