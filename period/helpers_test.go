package period_test

import (
	"cmp"
	"slices"

	"agonic/api"
	"agonic/period"
)

func list(l ...int) []int { return l }

func part(num, den int) api.Ratio { return api.Ratio{Num: num, Den: den} }

// spans returns spans: both ends in turn.
func spans(l ...int) []api.Span {
	var out []api.Span
	for i := 0; i+1 < len(l); i += 2 {
		out = append(out, api.Span{Lo: l[i], Hi: l[i+1]})
	}
	return out
}

// of returns a log: both ends of the period, and of all passages in turn.
func of(lo, hi int, l ...int) period.Log {
	return period.Log{Period: api.Span{Lo: lo, Hi: hi}, Passages: spans(l...)}
}

// example is G of the chapter's examples.
func example() period.Log { return of(4, 6, 0, 1, 20, 22, 51, 51) }

func clone(l period.Log) period.Log {
	l.Passages = slices.Clone(l.Passages)
	return l
}

// moved returns a log whose passages are later.
func moved(l period.Log, by int) period.Log {
	l = clone(l)
	for i := range l.Passages {
		l.Passages[i].Lo += by
		l.Passages[i].Hi += by
	}
	return l
}

// scaled returns a log of which all numbers are multiplied.
func scaled(l period.Log, by int) period.Log {
	l = clone(l)
	l.Period = api.Span{Lo: l.Period.Lo * by, Hi: l.Period.Hi * by}
	for i, p := range l.Passages {
		l.Passages[i] = api.Span{Lo: p.Lo * by, Hi: p.Hi * by}
	}
	return l
}

// reversed returns the log of an observer whose clock runs backwards from a time.
func reversed(l period.Log, from int) period.Log {
	l = clone(l)
	slices.Reverse(l.Passages)
	for i, p := range l.Passages {
		l.Passages[i] = api.Span{Lo: from - p.Hi, Hi: from - p.Lo}
	}
	return l
}

func sum(counts []int) int {
	total := 0
	for _, n := range counts {
		total += n
	}
	return total
}

func compare(a, b api.Ratio) int { return cmp.Compare(a.Num*b.Den, b.Num*a.Den) }

// divisor returns the greatest number that divides two numbers.
func divisor(a, b int) int {
	if b == 0 {
		return a
	}
	return divisor(b, a%b)
}

func reduced(r api.Ratio) api.Ratio {
	d := divisor(r.Num, r.Den)
	return part(r.Num/d, r.Den/d)
}

// down and up return a fraction's integer below and above; its Den is above 0.
func down(num, den int) int {
	if num < 0 {
		return -((den - 1 - num) / den)
	}
	return num / den
}

func up(num, den int) int { return -down(-num, den) }

// dice yields the same numbers in every run.
type dice struct{ state uint64 }

// roll returns a number from a to b.
func (d *dice) roll(a, b int) int {
	d.state = d.state*6364136223846793005 + 1442695040888963407
	return a + int(d.state>>33)%(b-a+1)
}

func (d *dice) pick(l ...int) int { return l[d.roll(0, len(l)-1)] }

// wild returns a log without an error, with gaps and widths up to some numbers.
func (d *dice) wild(passages, gap, width int) period.Log {
	lo := d.roll(1, 5)
	out := of(lo, d.pick(lo, d.roll(lo, lo+3), d.roll(lo, 30)))
	at := d.roll(-1, 5)
	for range passages {
		from := at + d.roll(1, gap)
		at = from + d.pick(0, d.roll(0, width))
		out.Passages = append(out.Passages, api.Span{Lo: from, Hi: at})
	}
	return out
}

// truth returns a log with one of its truths: the counts, and the period.
func (d *dice) truth(passages, swings, slack int) (period.Log, []int, api.Ratio) {
	for {
		p := part(d.roll(1, d.pick(20, 200, 3000)), d.roll(1, 6))
		l := of(max(1, down(p.Num, p.Den)-d.roll(0, slack)), up(p.Num, p.Den)+d.roll(0, slack))
		at := d.roll(0, 40*p.Den)
		var counts []int
		for i := range passages {
			if i > 0 {
				counts = append(counts, d.roll(1, swings))
				at += counts[i-1] * p.Num
			}
			lo, hi := down(at, p.Den)-d.roll(0, slack), up(at, p.Den)+d.roll(0, slack)
			l.Passages = append(l.Passages, api.Span{Lo: max(0, lo), Hi: hi})
		}
		if p.Num >= p.Den && trueCheck(l) == api.OK {
			return l, counts, reduced(p)
		}
	}
}

// mixed returns a log, and counts that are possible, nearly possible, or any ones.
func (d *dice) mixed() (period.Log, []int) {
	l, counts, _ := d.truth(d.roll(2, 8), d.pick(3, 9, 40), d.pick(0, 1, 5))
	switch d.roll(0, 3) {
	case 0:
		i := d.roll(0, len(counts)-1)
		counts[i] = max(1, counts[i]+d.roll(-1, 1))
	case 1:
		counts[d.roll(0, len(counts)-1)] = d.pick(1, 2, period.MaxTime)
	case 2:
		l.Period.Lo = d.roll(1, l.Period.Hi)
		l.Period.Hi = d.roll(l.Period.Lo, l.Period.Lo+3)
	}
	return l, counts
}

// trueCheck returns the error of a log in the definition's words.
func trueCheck(l period.Log) api.Errno {
	switch p := l.Period; {
	case p.Lo > p.Hi, p.Lo < 1, p.Hi > 10000:
		return api.ErrRange
	case len(l.Passages) < 2:
		return api.ErrEmpty
	case len(l.Passages) > 8:
		return api.ErrMany
	}
	for i, p := range l.Passages {
		switch {
		case p.Lo > p.Hi, p.Lo < 0, p.Hi > 1000000:
			return api.ErrRange
		case i > 0 && l.Passages[i-1].Hi >= p.Lo:
			return api.ErrOrder
		}
	}
	return api.OK
}

// holds reports whether there is a truth with counts and a period: whether the first
// passage can be at a time from which all others are met.
func holds(l period.Log, counts []int, p api.Ratio) bool {
	if compare(p, part(l.Period.Lo, 1)) < 0 || compare(p, part(l.Period.Hi, 1)) > 0 {
		return false
	}
	lo, hi := l.Passages[0].Lo*p.Den, l.Passages[0].Hi*p.Den
	for i := range counts {
		later := sum(counts[:i+1]) * p.Num
		lo = max(lo, l.Passages[i+1].Lo*p.Den-later)
		hi = min(hi, l.Passages[i+1].Hi*p.Den-later)
	}
	return lo <= hi
}

// limits returns what a pair of passages with counts limits the period to.
func limits(l period.Log, counts []int, a, b int) (from, to api.Ratio) {
	n := sum(counts[a:b])
	return part(l.Passages[b].Lo-l.Passages[a].Hi, n), part(l.Passages[b].Hi-l.Passages[a].Lo, n)
}

// pairs returns all pairs of passages, in ascending order.
func pairs(passages int) [][2]int {
	var out [][2]int
	for i := range passages * passages {
		if a, b := i/passages, i%passages; a < b {
			out = append(out, [2]int{a, b})
		}
	}
	return out
}

// truePeriod returns the least and the greatest period with which counts have a truth, of
// all at which such periods can begin or end.
func truePeriod(l period.Log, counts []int) (least, greatest api.Ratio, possible bool) {
	ends := []api.Ratio{part(l.Period.Lo, 1), part(l.Period.Hi, 1)}
	for _, p := range pairs(len(l.Passages)) {
		from, to := limits(l, counts, p[0], p[1])
		ends = append(ends, from, to)
	}
	ends = slices.DeleteFunc(ends, func(p api.Ratio) bool { return !holds(l, counts, p) })
	if len(ends) == 0 {
		return part(0, 0), part(0, 0), false
	}
	return reduced(slices.MinFunc(ends, compare)), reduced(slices.MaxFunc(ends, compare)), true
}

// enumerated returns the counts that are possible of all that neighbouring passages allow.
func enumerated(l period.Log) [][]int {
	all := [][]int{nil}
	for i := range len(l.Passages) - 1 {
		var longer [][]int
		for _, counts := range all {
			for n := 1; n*l.Period.Lo <= l.Passages[i+1].Hi-l.Passages[i].Lo; n++ {
				longer = append(longer, append(slices.Clone(counts), n))
			}
		}
		all = longer
	}
	return slices.DeleteFunc(all, func(counts []int) bool {
		_, _, possible := truePeriod(l, counts)
		return !possible
	})
}

// tooMany is more than the counts that are returned.
const tooMany = 501

// critical returns all counts that are possible, or at least tooMany of them. It tries all
// periods at which some counts begin or end to be possible.
func critical(l period.Log) [][]int {
	seen, tried := map[[7]int]bool{}, map[api.Ratio]bool{}
	try := func(p api.Ratio) {
		if p = reduced(p); !tried[p] && len(seen) < tooMany {
			tried[p] = true
			withPeriod(l, p, seen)
		}
	}
	try(part(l.Period.Lo, 1))
	try(part(l.Period.Hi, 1))
	for _, p := range pairs(len(l.Passages)) {
		a, b := l.Passages[p[0]], l.Passages[p[1]]
		for _, time := range list(b.Lo-a.Hi, b.Hi-a.Lo) {
			for n := up(time, l.Period.Hi); n*l.Period.Lo <= time; n++ {
				try(part(time, n))
			}
		}
	}
	var out [][]int
	for counts := range seen {
		out = append(out, slices.Clone(counts[:len(l.Passages)-1]))
	}
	slices.SortFunc(out, slices.Compare)
	return out
}

// withPeriod adds the counts that are possible with a period: those with a truth in which
// some passage is at the beginning of its span.
func withPeriod(l period.Log, p api.Ratio, seen map[[7]int]bool) {
	first := l.Passages[0]
	for i, s := range l.Passages {
		from, to := 0, 0
		if i > 0 {
			from, to = up((s.Lo-first.Hi)*p.Den, p.Num), down((s.Lo-first.Lo)*p.Den, p.Num)
		}
		for n := from; n <= to && len(seen) < tooMany; n++ {
			beginning(l, p, s.Lo*p.Den-n*p.Num, seen)
		}
	}
}

// beginning adds the counts that are possible with a period and the time of the first
// passage, which is multiplied by the Den of the period.
func beginning(l period.Log, p api.Ratio, start int, seen map[[7]int]bool) {
	places := [][]int{list(0)}
	for _, s := range l.Passages[1:] {
		var longer [][]int
		from, to := up(s.Lo*p.Den-start, p.Num), down(s.Hi*p.Den-start, p.Num)
		for _, before := range places {
			for n := from; n <= to && len(longer) < tooMany; n++ {
				longer = append(longer, append(slices.Clone(before), n))
			}
		}
		places = longer
	}
	for _, x := range places {
		var counts [7]int
		for i := range x[1:] {
			counts[i] = x[i+1] - x[i]
		}
		seen[counts] = true
	}
}

// moves returns the path of a fraction above 0, move by move, as the definition finds it.
func moves(r api.Ratio) string {
	below, above := part(0, 1), part(1, 0)
	var out []byte
	for {
		m := part(below.Num+above.Num, below.Den+above.Den)
		switch compare(m, r) {
		case 0:
			return string(out)
		case -1:
			below = m
			out = append(out, 'R')
		default:
			above = m
			out = append(out, 'L')
		}
	}
}

// runs returns the runs of moves.
func runs(moves string) []int {
	var out []int
	for i := range len(moves) {
		if right := len(out)%2 == 1; len(out) == 0 || right != (moves[i] == 'R') {
			if len(out) == 0 && moves[i] == 'L' {
				out = append(out, 0)
			}
			out = append(out, 0)
		}
		out[len(out)-1]++
	}
	return out
}
