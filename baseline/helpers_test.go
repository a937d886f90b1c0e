package baseline_test

import (
	"slices"

	"agonic/api"
	"agonic/baseline"
)

// sheet returns a sheet: hour, least and greatest value of each absolute.
func sheet(rise, fall int, l ...int) baseline.Sheet {
	s := baseline.Sheet{Rise: rise, Fall: fall}
	for i := 0; i+2 < len(l); i += 3 {
		s.Absolutes = append(s.Absolutes, baseline.Absolute{Hour: l[i], Value: span(l[i+1], l[i+2])})
	}
	return s
}

// example returns S of the chapter's examples.
func example() baseline.Sheet { return sheet(2, 1, 0, 10, 12, 3, 20, 21, 5, 18, 18, 9, 15, 30) }

func span(lo, hi int) api.Span { return api.Span{Lo: lo, Hi: hi} }

func list(l ...int) []int { return l }

// pairs returns pairs: two indices each.
func pairs(l ...int) []baseline.Pair {
	var out []baseline.Pair
	for i := 0; i+1 < len(l); i += 2 {
		out = append(out, baseline.Pair{First: l[i], Second: l[i+1]})
	}
	return out
}

// upTo returns the numbers from 0 to n - 1.
func upTo(n int) []int {
	var out []int
	for i := range n {
		out = append(out, i)
	}
	return out
}

func clone(s baseline.Sheet) baseline.Sheet {
	s.Absolutes = slices.Clone(s.Absolutes)
	return s
}

// without returns a sheet without one of its absolutes.
func without(s baseline.Sheet, i int) baseline.Sheet {
	s = clone(s)
	s.Absolutes = slices.Delete(s.Absolutes, i, i+1)
	return s
}

// fixed returns a sheet whose baseline has one value at an hour; the value is one
// of those that an absolute of this hour allows, if there is one.
func fixed(s baseline.Sheet, hour, value int) baseline.Sheet {
	s = clone(s)
	a := baseline.Absolute{Hour: hour, Value: span(value, value)}
	for i, b := range s.Absolutes {
		if b.Hour == hour {
			s.Absolutes[i] = a
			return s
		}
		if b.Hour > hour {
			s.Absolutes = slices.Insert(s.Absolutes, i, a)
			return s
		}
	}
	s.Absolutes = append(s.Absolutes, a)
	return s
}

// apart reports whether a list of pairs is apart, and of indices of absolutes in their order.
func apart(l []baseline.Pair, absolutes int) bool {
	before := 0
	for _, p := range l {
		if p.First < before || p.First >= p.Second || p.Second >= absolutes {
			return false
		}
		before = p.Second
	}
	return true
}

// dice yields the same numbers in every run.
type dice struct{ state uint64 }

// roll returns a number from a to b.
func (d *dice) roll(a, b int) int {
	d.state = d.state*6364136223846793005 + 1442695040888963407
	return a + int(d.state>>33)%(b-a+1)
}

// hours returns some of the hours from 0 to most, in ascending order.
func (d *dice) hours(count, most int) []int {
	var out []int
	for h := range most + 1 {
		if d.roll(0, most) < count {
			out = append(out, h)
		}
	}
	return out
}

// steps returns valid steps.
func (d *dice) steps(most int) []int {
	out := d.hours(d.roll(0, 5), most)
	return out[:min(len(out), baseline.MaxSteps)]
}

// sheet returns a valid sheet of any values.
func (d *dice) sheet(mostHour, mostValue, mostDrift int) baseline.Sheet {
	s := baseline.Sheet{Rise: d.roll(0, mostDrift), Fall: d.roll(0, mostDrift)}
	for _, h := range d.hours(d.roll(1, 12), mostHour) {
		lo := d.roll(-mostValue, mostValue)
		s.Absolutes = append(s.Absolutes, baseline.Absolute{Hour: h, Value: span(lo, min(mostValue, lo+d.roll(0, mostValue)))})
	}
	if len(s.Absolutes) == 0 {
		return d.sheet(mostHour, mostValue, mostDrift)
	}
	s.Absolutes = s.Absolutes[:min(len(s.Absolutes), baseline.MaxAbsolutes)]
	return s
}

// drifting returns a sheet of a baseline that drifts, with steps now and then.
func (d *dice) drifting(absolutes int) baseline.Sheet {
	s := baseline.Sheet{Rise: d.roll(0, 30), Fall: d.roll(0, 30)}
	hour, value := d.roll(0, 40), d.roll(-5000, 5000)
	for range absolutes {
		s.Absolutes = append(s.Absolutes, baseline.Absolute{Hour: hour, Value: span(value-d.roll(0, 50), value+d.roll(0, 50))})
		gap := d.roll(1, 20)
		hour += gap
		value += d.roll(-s.Fall*gap, s.Rise*gap)
		if d.roll(0, 5) == 0 {
			value += d.roll(-900, 900)
		}
	}
	return s
}

// The sheets for which truths are enumerated: no bounded value leaves the window.
const (
	lastHour  = 7
	mostValue = 4
	mostDrift = 2
	window    = mostValue + mostDrift*(lastHour+1) + 1
)

// set is the numbers from -window to window, or some of them.
type set [2*window + 1]bool

func everything() set {
	var all set
	for i := range all {
		all[i] = true
	}
	return all
}

// spread returns where the numbers of a set can be an hour later.
func (s set) spread(fall, rise int) set {
	var out set
	for i, in := range s {
		for j := i - fall; in && j <= i+rise; j++ {
			if j >= 0 && j < len(out) {
				out[j] = true
			}
		}
	}
	return out
}

// both returns the numbers of two sets.
func (s set) both(other set) set {
	for i := range s {
		s[i] = s[i] && other[i]
	}
	return s
}

// seen returns what the sheet's absolutes say of an hour themselves.
func seen(s baseline.Sheet, hour int) set {
	all := everything()
	for _, a := range s.Absolutes {
		for i := range all {
			if v := i - window; a.Hour == hour && (v < a.Value.Lo || v > a.Value.Hi) {
				all[i] = false
			}
		}
	}
	return all
}

// truths returns the values that baselines have at each hour from 0 to lastHour + 1:
// hour by hour, and number by number, first forwards and then backwards.
func truths(s baseline.Sheet, steps []int) [lastHour + 2]set {
	var out [lastHour + 2]set
	for h := range out {
		out[h] = seen(s, h)
		if h > 0 && !slices.Contains(steps, h-1) {
			out[h] = out[h].both(out[h-1].spread(s.Fall, s.Rise))
		}
	}
	for h := lastHour; h >= 0; h-- {
		if !slices.Contains(steps, h) {
			out[h] = out[h].both(out[h+1].spread(s.Rise, s.Fall))
		}
	}
	return out
}

// ends returns the smallest and the greatest number of a set that has no gap, and
// whether it has numbers at all; ok is false if it has a gap.
func (s set) ends() (v api.Span, some, ok bool) {
	first := slices.Index(s[:], true)
	if first < 0 {
		return api.Span{}, false, true
	}
	last := first
	for last+1 < len(s) && s[last+1] {
		last++
	}
	return span(first-window, last-window), true, !slices.Contains(s[last+1:], true)
}

// trueExplains reports whether there is a truth.
func trueExplains(s baseline.Sheet, steps []int) bool {
	all := truths(s, steps)
	return !slices.Contains(all[:], set{})
}

// trueFewest tries all lists of steps.
func trueFewest(s baseline.Sheet) []int {
	best := upTo(lastHour + 1)
	for bits := range 1 << (lastHour + 1) {
		var steps []int
		for h := range lastHour + 1 {
			if bits>>h&1 == 1 {
				steps = append(steps, h)
			}
		}
		shorter := len(steps) < len(best)
		if (shorter || len(steps) == len(best) && slices.Compare(steps, best) > 0) && trueExplains(s, steps) {
			best = steps
		}
	}
	return best
}

// trueSuspects tries each absolute.
func trueSuspects(s baseline.Sheet, steps []int) []int {
	var out []int
	for i := range s.Absolutes {
		if len(s.Absolutes) > 1 && trueExplains(without(s, i), steps) {
			out = append(out, i)
		}
	}
	return out
}

// trueNeeds reports whether two absolutes need a step.
func trueNeeds(s baseline.Sheet, first, second int) bool {
	s.Absolutes = []baseline.Absolute{s.Absolutes[first], s.Absolutes[second]}
	return !trueExplains(s, nil)
}
