package rank_test

import (
	"math/bits"
	"slices"
	"strconv"

	"agonic/api"
	"agonic/rank"
)

func list(l ...int) []int { return l }

// month returns spans: Lo and Hi in turn.
func month(l ...int) []api.Span {
	var out []api.Span
	for i := 0; i+1 < len(l); i += 2 {
		out = append(out, api.Span{Lo: l[i], Hi: l[i+1]})
	}
	return out
}

func part(num, den int) api.Ratio { return api.Ratio{Num: num, Den: den} }

// example is M of the chapter's examples.
func example() []api.Span { return month(1, 4, 3, 6, 5, 5, 7, 9) }

// row is days of which each one is surely quieter than the next one.
func row(days int) []api.Span {
	var out []api.Span
	for i := range days {
		out = append(out, api.Span{Lo: i, Hi: i})
	}
	return out
}

// same is days with the same range.
func same(days int) []api.Span { return slices.Repeat(month(5, 5), days) }

// steps is days that can only change places with those next to them.
func steps(days int) []api.Span {
	var out []api.Span
	for i := range days {
		out = append(out, api.Span{Lo: i, Hi: i + 1})
	}
	return out
}

// wide is days in a row, and one that can be anywhere among them.
func wide(days int) []api.Span { return append(row(days-1), api.Span{Lo: 0, Hi: days}) }

func upTo(days int) []int {
	var out []int
	for i := range days {
		out = append(out, i)
	}
	return out
}

func backwards(l []int) []int {
	l = slices.Clone(l)
	slices.Reverse(l)
	return l
}

// dice yields the same numbers in every run.
type dice struct{ state uint64 }

// roll returns a number from a to b.
func (d *dice) roll(a, b int) int {
	d.state = d.state*6364136223846793005 + 1442695040888963407
	return a + int(d.state>>33)%(b-a+1)
}

func (d *dice) pick(l ...int) int { return l[d.roll(0, len(l)-1)] }

// shuffled returns an order, possible or not.
func (d *dice) shuffled(days int) []int {
	out := upTo(days)
	for i := range out {
		k := d.roll(i, days-1)
		out[i], out[k] = out[k], out[i]
	}
	return out
}

// month returns so many days, many or few of which can change places.
func (d *dice) month(days int) []api.Span {
	most := d.pick(1, 3, days, 2*days, 4*days, 100, rank.MaxRange)
	wide := d.pick(0, 0, 1, max(1, most/8), max(1, most/3), most)
	var out []api.Span
	for range days {
		lo := d.roll(0, most)
		hi := min(most, lo+d.roll(0, wide))
		switch d.roll(0, 15) {
		case 0:
			lo, hi = 0, most
		case 1:
			hi = lo
		}
		out = append(out, api.Span{Lo: lo, Hi: hi})
	}
	return out
}

// truth returns twice the range of each day, so that halves are among them.
func (d *dice) truth(m []api.Span) []int {
	var out []int
	for _, s := range m {
		out = append(out, d.pick(2*s.Lo, 2*s.Hi, d.roll(2*s.Lo, 2*s.Hi)))
	}
	return out
}

// sorted returns an order of the days by their ranges; days with the same range come as in first.
func sorted(ranges, first []int) []int {
	out := slices.Clone(first)
	slices.SortStableFunc(out, func(a, b int) int { return ranges[a] - ranges[b] })
	return out
}

// order returns a possible order.
func (d *dice) order(m []api.Span) []int { return sorted(d.truth(m), d.shuffled(len(m))) }

// isTrue reports whether some truth has an order: each day gets the smallest range that it
// can have there.
func isTrue(m []api.Span, order []int) bool {
	least := 0
	for _, day := range order {
		least = max(least, m[day].Lo)
		if least > m[day].Hi {
			return false
		}
	}
	return true
}

// orders returns all orders of so many days, the smaller ones first.
func orders(days int) [][]int {
	var out [][]int
	var grow func(order []int)
	grow = func(order []int) {
		if len(order) == days {
			out = append(out, slices.Clone(order))
		}
		for day := range days {
			if !slices.Contains(order, day) {
				grow(append(order, day))
			}
		}
	}
	grow(nil)
	return out
}

// trueOrders returns all possible orders, the smaller ones first.
func trueOrders(m []api.Span) [][]int {
	var out [][]int
	for _, order := range orders(len(m)) {
		if isTrue(m, order) {
			out = append(out, order)
		}
	}
	return out
}

// everySmall sees all months of up to three days with ranges up to 3, many of four, and
// some of five and six.
func everySmall(seed uint64, see func(m []api.Span)) {
	d := dice{seed}
	var spans []api.Span
	for lo := range 4 {
		for hi := lo; hi < 4; hi++ {
			spans = append(spans, api.Span{Lo: lo, Hi: hi})
		}
	}
	var grow func(m []api.Span)
	grow = func(m []api.Span) {
		if len(m) > 0 {
			see(slices.Clone(m))
		}
		for _, s := range spans {
			if len(m) < 3 || len(m) == 3 && d.roll(0, 7) == 0 {
				grow(append(m, s))
			}
		}
	}
	grow(nil)
	for range 150 {
		see(d.month(5))
		see(d.month(6))
	}
}

// everyLarge sees months of so many days at most, which some orders are too many to list for.
func everyLarge(seed uint64, count, most int, see func(d *dice, m []api.Span)) {
	d := dice{seed}
	for _, m := range [][]api.Span{row(most), same(most), steps(most), wide(most)} {
		see(&d, m)
	}
	for range count {
		see(&d, d.month(d.roll(7, most)))
	}
}

// trueSpans returns the least and the greatest rank of each day in orders.
func trueSpans(all [][]int) []api.Span {
	out := make([]api.Span, len(all[0]))
	for i, order := range all {
		for p, day := range order {
			if i == 0 {
				out[day] = api.Span{Lo: p + 1, Hi: p + 1}
			}
			out[day].Lo = min(out[day].Lo, p+1)
			out[day].Hi = max(out[day].Hi, p+1)
		}
	}
	return out
}

// days is a set of days, by their bits.
type days uint

func (s days) list() []int {
	var out []int
	for day := range bits.Len(uint(s)) {
		if s>>day&1 == 1 {
			out = append(out, day)
		}
	}
	return out
}

func daysOf(l []int) days {
	var out days
	for _, day := range l {
		out |= 1 << day
	}
	return out
}

// ways counts how many orders the days of sets can have, from the quietest day on and from
// the stormiest one on.
type ways struct {
	m             []api.Span
	first, second map[days]int
}

func newWays(m []api.Span) ways { return ways{m, map[days]int{0: 1}, map[days]int{0: 1}} }

func (w ways) whole() days { return 1<<len(w.m) - 1 }

// quieter returns in how many orders the days of a set can be the first ones: the last one
// of them is as loud as each other one can be quiet.
func (w ways) quieter(s days) int {
	n, known := w.first[s]
	if known {
		return n
	}
	lo, least := 0, rank.MaxRange
	for day := range w.m {
		if s>>day&1 == 1 {
			lo = max(lo, w.m[day].Lo)
		} else {
			least = min(least, w.m[day].Hi)
		}
	}
	if lo <= least {
		for _, day := range s.list() {
			if w.m[day].Hi >= lo {
				n += w.quieter(s &^ (1 << day))
			}
		}
	}
	w.first[s] = n
	return n
}

// louder returns in how many orders the days of a set can be the last ones.
func (w ways) louder(s days) int {
	n, known := w.second[s]
	if known {
		return n
	}
	hi := rank.MaxRange
	for _, day := range s.list() {
		hi = min(hi, w.m[day].Hi)
	}
	for _, day := range s.list() {
		if w.m[day].Lo <= hi {
			n += w.louder(s &^ (1 << day))
		}
	}
	w.second[s] = n
	return n
}

// at returns in how many orders a day comes just after the days of a set.
func (w ways) at(s days, day int) int {
	with := s | 1<<day
	if with == s || w.quieter(with) == 0 {
		return 0
	}
	return w.quieter(s) * w.louder(w.whole()&^with)
}

// trueChance returns in how many orders a day has a rank.
func (w ways) trueChance(day, rank int) int {
	n := 0
	for s := range w.whole() + 1 {
		if bits.OnesCount(uint(s)) == rank-1 {
			n += w.at(s, day)
		}
	}
	return n
}

// trueBefore returns in how many orders a comes before b.
func (w ways) trueBefore(a, b int) int {
	n := 0
	for s := range w.whole() + 1 {
		if s>>b&1 == 0 {
			n += w.at(s, a)
		}
	}
	return n
}

// isReduced reports whether a fraction is reduced and has a value.
func isReduced(r api.Ratio, num, den int) bool {
	for n := 2; n <= min(r.Num, 12); n++ {
		if r.Num%n == 0 && r.Den%n == 0 {
			return false
		}
	}
	return r.Den >= 1 && r.Num*den == num*r.Den && (num != 0 || r.Den == 1)
}

// mirrored is a month whose spans are negated.
func mirrored(m []api.Span) []api.Span {
	var out []api.Span
	for _, s := range m {
		out = append(out, api.Span{Lo: rank.MaxRange - s.Hi, Hi: rank.MaxRange - s.Lo})
	}
	return out
}

// renumbered is a month whose day i has been the day of[i].
func renumbered(m []api.Span, of []int) []api.Span {
	var out []api.Span
	for _, day := range of {
		out = append(out, m[day])
	}
	return out
}

// narrowed returns a month whose spans are within those of another one.
func (d *dice) narrowed(m []api.Span) []api.Span {
	var out []api.Span
	for _, s := range m {
		lo := d.pick(s.Lo, d.roll(s.Lo, s.Hi))
		out = append(out, api.Span{Lo: lo, Hi: d.pick(s.Hi, d.roll(lo, s.Hi))})
	}
	return out
}

// must returns a result that has no error.
func must[T any](result T, e api.Errno) T {
	if e != api.OK {
		panic("error " + strconv.Itoa(int(e)))
	}
	return result
}
