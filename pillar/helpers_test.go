package pillar_test

import (
	"slices"

	"agonic/api"
	"agonic/pillar"
)

// The plans P, Q and R of the chapter's examples.
var (
	planP = plan(1, []int{1, 1}, []int{1, -1})
	planQ = plan(1, []int{1, 1}, []int{2, 2})
	planR = plan(1, []int{1, 1}, []int{1, -1}, []int{1, 2})
)

func plan(errors int, rows ...[]int) pillar.Plan {
	return pillar.Plan{Errors: errors, Rows: rows}
}

// spans returns spans: Lo and Hi in turn.
func spans(ends ...int) []api.Span {
	var out []api.Span
	for i := 0; i+1 < len(ends); i += 2 {
		out = append(out, api.Span{Lo: ends[i], Hi: ends[i+1]})
	}
	return out
}

func ratio(num, den int) api.Ratio { return api.Ratio{Num: num, Den: den} }

func clonePlan(p pillar.Plan) pillar.Plan {
	q := pillar.Plan{Errors: p.Errors}
	for _, row := range p.Rows {
		q.Rows = append(q.Rows, slices.Clone(row))
	}
	return q
}

// dice yields the same numbers in every run.
type dice struct{ state uint64 }

// roll returns a number from a to b.
func (d *dice) roll(a, b int) int {
	d.state = d.state*6364136223846793005 + 1442695040888963407
	return a + int(d.state>>33)%(b-a+1)
}

func (d *dice) shuffled(n int) []int {
	order := make([]int, n)
	for i := range order {
		j := d.roll(0, i)
		order[i] = order[j]
		order[j] = i
	}
	return order
}

// plan returns a valid plan; small factors make dependent rows frequent.
func (d *dice) plan(mostRows int) pillar.Plan {
	p := pillar.Plan{Errors: d.roll(0, pillar.MaxErrors)}
	most := d.roll(1, pillar.MaxFactor)
	for range d.roll(1, mostRows) {
		p.Rows = append(p.Rows, d.numbers(p.Errors+1, most))
	}
	return p
}

// numbers returns numbers from -most to most.
func (d *dice) numbers(count, most int) []int {
	out := make([]int, count)
	for i := range out {
		out[i] = d.roll(-most, most)
	}
	return out
}

// around returns readings that contain those of a truth (numbers / den).
func (d *dice) around(p pillar.Plan, truth []int, den, slack int) []api.Span {
	var out []api.Span
	for _, row := range p.Rows {
		exact := times(row, truth)
		lo, hi := exact/den, exact/den
		if lo*den > exact {
			lo--
		}
		if hi*den < exact {
			hi++
		}
		out = append(out, api.Span{Lo: lo - d.roll(0, slack), Hi: hi + d.roll(0, slack)})
	}
	return out
}

// anyReadings returns readings that may be impossible.
func (d *dice) anyReadings(count, most, widest int) []api.Span {
	var out []api.Span
	for range count {
		lo := d.roll(-most, most)
		out = append(out, api.Span{Lo: lo, Hi: min(most, lo+d.roll(0, widest))})
	}
	return out
}

// mixed returns readings of any kind for a plan.
func (d *dice) mixed(p pillar.Plan) []api.Span {
	switch d.roll(0, 2) {
	case 0:
		return d.anyReadings(len(p.Rows), 30, 40)
	case 1:
		return d.around(p, d.numbers(p.Errors+1, 20), 1, 0)
	}
	return d.around(p, d.numbers(p.Errors+1, 40), d.roll(1, 5), 6)
}

func times(a, b []int) int {
	sum := 0
	for i := range a {
		sum += a[i] * b[i]
	}
	return sum
}

func gcd(numbers ...int) int {
	d := 0
	for _, n := range numbers {
		for n != 0 {
			d, n = n, d%n
		}
	}
	return max(d, -d)
}

func reduced(num, den int) api.Ratio {
	g := gcd(num, den)
	if den < 0 {
		g = -g
	}
	return ratio(num/g, den/g)
}

// compare returns a negative number, 0 or a positive one as a is less than, equal to, or greater than b.
func compare(a, b api.Ratio) int { return a.Num*b.Den - b.Num*a.Den }

// sums returns, at each index, the sum of numbers times factors.
func sums(p pillar.Plan, of []int) []int {
	out := make([]int, p.Errors+1)
	for i, row := range p.Rows {
		for j, factor := range row {
			out[j] += of[i] * factor
		}
	}
	return out
}

func small(numbers []int) bool {
	for _, n := range numbers {
		if n < -pillar.MaxWeight || n > pillar.MaxWeight {
			return false
		}
	}
	return true
}

// isCombination checks all that the chapter states for the weights of Weigh.
func isCombination(p pillar.Plan, w pillar.Weights) bool {
	want := make([]int, p.Errors+1)
	want[0] = w.Under
	return len(w.Of) == len(p.Rows) && w.Under >= 1 && w.Under <= pillar.MaxWeight && small(w.Of) &&
		slices.Equal(sums(p, w.Of), want) && gcd(append(slices.Clone(w.Of), w.Under)...) == 1
}

func isHidden(p pillar.Plan, hidden []int) bool {
	if len(hidden) != p.Errors+1 || !small(hidden) || hidden[0] == 0 {
		return false
	}
	for _, row := range p.Rows {
		if times(row, hidden) != 0 {
			return false
		}
	}
	return true
}

func reachOf(of []int, readings []api.Span) (low, high int) {
	for i, span := range readings {
		low += min(of[i]*span.Lo, of[i]*span.Hi)
		high += max(of[i]*span.Lo, of[i]*span.Hi)
	}
	return low, high
}

func isClash(p pillar.Plan, readings []api.Span, clash []int) bool {
	if len(clash) != len(p.Rows) || !small(clash) {
		return false
	}
	low, high := reachOf(clash, readings)
	return slices.Equal(sums(p, clash), make([]int, p.Errors+1)) && (low > 0 || high < 0)
}

// limit states that the sum of of times the value and the errors is at most most.
type limit struct {
	of   [pillar.MaxErrors + 1]int
	most int
}

// project eliminates the last errors of limits one by one: what is left are the
// limits of the value in all truths. It shares no idea with the package.
func project(p pillar.Plan, readings []api.Span) []limit {
	var limits []limit
	for i, row := range p.Rows {
		up, down := limit{most: readings[i].Hi}, limit{most: -readings[i].Lo}
		for j, factor := range row {
			up.of[j], down.of[j] = factor, -factor
		}
		limits = append(limits, up, down)
	}
	for j := p.Errors; j > 0; j-- {
		limits = drop(limits, j)
	}
	return limits
}

// drop returns what limits say of all but one of the errors.
func drop(limits []limit, at int) []limit {
	tightest := map[[pillar.MaxErrors + 1]int]limit{}
	keep := func(l limit) {
		key := l.of
		g := gcd(key[:]...)
		for i := range key {
			if g > 1 {
				key[i] /= g
			}
		}
		if g > 0 {
			whole := gcd(g, l.most)
			for i := range l.of {
				l.of[i] /= whole
			}
			l.most, g = l.most/whole, g/whole
		}
		old, found := tightest[key]
		if !found || l.most*max(1, gcd(old.of[:]...)) < old.most*max(1, g) {
			tightest[key] = l
		}
	}
	for _, a := range limits {
		if a.of[at] == 0 {
			keep(a)
		}
		for _, b := range limits {
			if a.of[at] > 0 && b.of[at] < 0 {
				m, n := -b.of[at], a.of[at]
				c := limit{most: m*a.most + n*b.most}
				for i := range c.of {
					c.of[i] = m*a.of[i] + n*b.of[i]
				}
				keep(c)
			}
		}
	}
	var out []limit
	for _, l := range tightest {
		out = append(out, l)
	}
	return out
}

// expect returns what Value has to return for valid arguments.
func expect(p pillar.Plan, readings []api.Span) (lo, hi api.Ratio, e api.Errno) {
	for _, l := range project(p, readings) {
		switch c := l.of[0]; {
		case c == 0 && l.most < 0:
			return api.Ratio{}, api.Ratio{}, api.ErrClash
		case c > 0:
			if at := reduced(l.most, c); hi.Den == 0 || compare(at, hi) < 0 {
				hi = at
			}
		case c < 0:
			if at := reduced(l.most, c); lo.Den == 0 || compare(at, lo) > 0 {
				lo = at
			}
		}
	}
	// Each reading is bounded on both sides, so that an end is missing only together with the other one.
	if lo.Den != 0 && hi.Den != 0 && compare(lo, hi) > 0 {
		return api.Ratio{}, api.Ratio{}, api.ErrClash
	}
	if lo.Den == 0 || hi.Den == 0 {
		return api.Ratio{}, api.Ratio{}, api.ErrLost
	}
	return lo, hi, api.OK
}
