package neutral

import (
	"slices"
	"sort"

	"agonic/api"
)

// All roots lie between -border and border: beyond, the last power outweighs the others.
const border = MaxFactor + 1

// roots returns all different roots in ascending order.
func (p polynomial) roots() []Root {
	chain := slices.Values(p.chain())
	low, high := api.Ratio{Num: -border, Den: 1}, api.Ratio{Num: border, Den: 1}
	first := -border * Unit
	var roots []Root
	for before := range lost(chain, low, high) {
		up := first + sort.Search(2*border*Unit, func(i int) bool {
			return lost(chain, low, api.Ratio{Num: first + i, Den: Unit}) > before
		})
		roots = append(roots, Root{up, p.occurs(up)})
	}
	return roots
}

// occurs returns how often the root occurs that is at most up / Unit, and greater than the
// fraction before it. There are several such roots only if all roots occur once: if one of
// them occurs more often, a degree of 3 leaves only roots that are fractions, and the
// product of the denominators of two of them is at most MaxFactor, so that they differ by
// more than 1 / Unit.
func (p polynomial) occurs(up int) int {
	times := 0
	for q := range p.down(polynomial.repeated) {
		if q.count(api.Ratio{Num: up - 1, Den: Unit}, api.Ratio{Num: up, Den: Unit}) > 0 {
			times++
		}
	}
	return times
}
