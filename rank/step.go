package rank

// before is, for each day, the days that come before it in all possible orders.
type before []set

func (m month) before() before { return m.others(m.quieter) }

// follows reports whether a day can come just after a group.
func (b before) follows(group set, day int) bool {
	return !group.has(day) && group.hasAll(b[day])
}

// isGroup reports whether nothing keeps the days of a set from being the first ones.
func (b before) isGroup(days set) bool {
	for day := range len(b) {
		if days.has(day) && !days.hasAll(b[day]) {
			return false
		}
	}
	return true
}

// groups returns the number of groups of so many days.
func (b before) groups(size int) int {
	groups := 0
	for days := range set(1) << len(b) {
		if days.size() == size && b.isGroup(days) {
			groups++
		}
	}
	return groups
}

// step reports whether a day may come just after a group.
type step func(group set, day int) bool

// grown returns the order that always goes on with the first day that may come.
func grown(days int, may step) []int {
	var continued func(order []int, group set) []int
	continued = func(order []int, group set) []int {
		for day := range days {
			if may(group, day) {
				// No order is continued in the room behind it: each one keeps its own memory.
				return continued(append(order[:len(order):len(order)], day), group.with(day))
			}
		}
		return order
	}
	return continued(nil, 0)
}
