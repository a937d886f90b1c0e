package rank

import "agonic/api"

// month is the spans of a month without an error.
type month []api.Span

// quieter reports whether day i is surely quieter than day k.
func (m month) quieter(i, k int) bool { return m[i].Hi < m[k].Lo }

// louder reports whether day i is surely louder than day k.
func (m month) louder(i, k int) bool { return m.quieter(k, i) }

// others returns, for each day, the days that are so compared with it.
func (m month) others(are func(i, k int) bool) []set {
	sets := make([]set, len(m))
	for day := range len(m) {
		for other := range len(m) {
			if are(other, day) {
				sets[day] = sets[day].with(other)
			}
		}
	}
	return sets
}

func (m month) isFault(order []int, p, q int) bool {
	return p < q && m.quieter(order[q], order[p])
}

// fault returns the first fault of an order, if it has one.
func (m month) fault(order []int) (p, q int, has bool) {
	for p := range len(order) {
		for q := range len(order) {
			if m.isFault(order, p, q) {
				return p, q, true
			}
		}
	}
	return 0, 0, false
}

// ranks returns the ranks of each day. Only days that are surely quieter have to come
// before it, and only days that are surely louder after it.
func (m month) ranks() []api.Span {
	quieter, louder := m.others(m.quieter), m.others(m.louder)
	var ranks []api.Span
	for day := range len(m) {
		ranks = append(ranks, api.Span{Lo: quieter[day].size() + 1, Hi: len(m) - louder[day].size()})
	}
	return ranks
}
