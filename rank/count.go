package rank

import "agonic/api"

// kept is what was counted for keys, so that it is counted once.
type kept[K comparable, V any] map[K]V

// of returns what was counted for a key; count is called if nothing was.
func (k kept[K, V]) of(key K, count func(K) V) V {
	value, ok := k[key]
	if !ok {
		value = count(key)
		k[key] = value
	}
	return value
}

// counter counts the orders in which each day may come where it does.
type counter struct {
	days int
	may  step
	kept kept[set, int]
}

func newCounter(days int, may step) counter { return counter{days, may, kept[set, int]{}} }

// possible returns a counter of the possible orders.
func (m month) possible() counter { return newCounter(len(m), m.before().follows) }

// all returns the number of orders.
func (c counter) all() int { return c.after(0) }

// after returns in how many ways an order can go on after a group: in whatever order its
// days came, they are the same.
func (c counter) after(group set) int { return c.kept.of(group, c.count) }

func (c counter) count(group set) int {
	if group.size() == c.days {
		return 1
	}
	ways := 0
	for day := range c.days {
		if c.may(group, day) {
			ways += c.after(group.with(day))
		}
	}
	return ways
}

// number returns how many orders are less than this one: those that go on with a smaller
// day after one of its beginnings.
func (c counter) number(order []int) int {
	number := 0
	var group set
	for i := range len(order) {
		for day := range order[i] {
			if c.may(group, day) {
				number += c.after(group.with(day))
			}
		}
		group = group.with(order[i])
	}
	return number
}

// at returns the order that has a number: so many orders are passed over, all those that
// go on with the same day at once.
func (c counter) at(number int) []int {
	return grown(c.days, func(group set, day int) bool {
		if !c.may(group, day) {
			return false
		}
		ways := c.after(group.with(day))
		if number < ways {
			return true
		}
		number -= ways
		return false
	})
}

// share returns the part of the possible orders in which all days suit where they come.
func (m month) share(suits step) api.Ratio {
	possible := m.possible()
	some := newCounter(len(m), func(group set, day int) bool {
		return possible.may(group, day) && suits(group, day)
	})
	return reduced(some.all(), possible.all())
}

// reduced returns a fraction; den is above 0.
func reduced(num, den int) api.Ratio {
	a, b := num, den
	for b != 0 {
		a, b = b, a%b
	}
	return api.Ratio{Num: num / a, Den: den / a}
}
