package period_test

import (
	"slices"
	"strings"
	"testing"

	"agonic/api"
	"agonic/period"
)

func sameCounts(a, b [][]int) bool { return slices.EqualFunc(a, b, slices.Equal[[]int]) }

func hasCounts(all [][]int, counts []int) bool {
	return slices.ContainsFunc(all, func(c []int) bool { return slices.Equal(c, counts) })
}

// P8.4, G2, G3: counts of small logs, compared with all that neighbouring passages allow.
func TestCountsAgainstEnumeration(t *testing.T) {
	d := dice{1}
	count := [3]int{}
	for range 3000 {
		l := d.wild(d.roll(2, 5), d.pick(3, 9, 12), d.pick(0, 1, 3))
		want := enumerated(l)
		if len(want) > period.MaxCounts {
			continue
		}
		got, e := period.Counts(l)
		if !sameCounts(got, want) || e != api.OK {
			t.Fatalf("Counts(%v) = %v %d, want %v", l, got, e, want)
		}
		count[min(len(got), 2)]++
	}
	if min(count[0], count[1], count[2]) < 200 {
		t.Errorf("too few of one kind: %v", count)
	}
}

// checkCounts compares Counts and Total with what the definition allows at all periods
// at which some counts begin or end to be possible, and returns the error of Total.
func checkCounts(t *testing.T, l period.Log) api.Errno {
	t.Helper()
	want := critical(l)
	got, e := period.Counts(l)
	total, f := period.Total(l)
	switch {
	case len(want) >= tooMany:
		if len(got) > 0 || e != api.ErrOver || total != (api.Span{}) || f != api.ErrOver {
			t.Fatalf("%v: %d Counts, %d, Total %v %d, want too many", l, len(got), e, total, f)
		}
	case !sameCounts(got, want) || e != api.OK:
		t.Fatalf("Counts(%v) = %v %d, want %v", l, got, e, want)
	case len(want) == 0:
		if total != (api.Span{}) || f != api.ErrClash {
			t.Fatalf("Total(%v) = %v %d, want none", l, total, f)
		}
	default:
		var sums []int
		for _, counts := range want {
			sums = append(sums, sum(counts))
		}
		if total != (api.Span{Lo: slices.Min(sums), Hi: slices.Max(sums)}) || f != api.OK {
			t.Fatalf("Total(%v) = %v %d, want the ends of %v", l, total, f, sums)
		}
	}
	return f
}

// P8.4, G2, G3: counts of logs of up to 8 passages, and their sums.
func TestCountsAgainstDefinition(t *testing.T) {
	d := dice{2}
	count := map[api.Errno]int{}
	for range 5000 {
		count[checkCounts(t, d.wild(d.roll(2, 8), d.pick(6, 20, 60), d.pick(0, 2, 5)))]++
		count[checkCounts(t, d.wild(d.roll(2, 8), d.pick(1, 6), d.pick(5, 12)))]++
		l, _, _ := d.truth(d.roll(2, 8), d.pick(2, 5, 9), d.pick(0, 1, 3))
		if l.Passages[len(l.Passages)-1].Hi < 400 {
			count[checkCounts(t, l)]++
		}
	}
	for _, e := range []api.Errno{api.OK, api.ErrClash, api.ErrOver} {
		if count[e] < 100 {
			t.Errorf("too few of one kind: %v", count)
		}
	}
}

// P8.2, P8.8, G3: the ends of the period of counts, with a truth at each of them.
func TestPeriodAgainstDefinition(t *testing.T) {
	d := dice{3}
	count := map[bool]int{}
	for range 20000 {
		l, counts := d.mixed()
		least, greatest, possible := truePeriod(l, counts)
		a, b, e := period.Period(l, counts)
		want := api.ErrClash
		if possible {
			want = api.OK
		}
		if a != least || b != greatest || e != want {
			t.Fatalf("Period(%v, %v) = %v %v %d, want %v %v", l, counts, a, b, e, least, greatest)
		}
		if possible && (!holds(l, counts, a) || !holds(l, counts, b)) {
			t.Fatalf("Period(%v, %v) = %v %v, without a truth", l, counts, a, b)
		}
		count[possible]++
	}
	if min(count[false], count[true]) < 3000 {
		t.Errorf("too few of one kind: %v", count)
	}
}

// P8.3, R6: no pair limits more than those of Bounds, and none before them as much.
func TestBoundsAgainstDefinition(t *testing.T) {
	d := dice{4}
	for range 5000 {
		l, counts := d.mixed()
		if d.roll(0, 2) == 0 {
			// Equal times: several pairs have the same limit.
			l, counts = of(1, 9, 0, 0, 4, 4, 8, 8, 12, 12, 16, 16, 24, 24), list(d.roll(1, 2), d.roll(1, 2), 1, d.roll(1, 2), d.pick(2, 4))
		}
		low, high, e := period.Bounds(l, counts)
		if e != api.OK {
			t.Fatalf("Bounds(%v, %v): %d", l, counts, e)
		}
		below, _ := limits(l, counts, low[0], low[1])
		_, above := limits(l, counts, high[0], high[1])
		for _, p := range pairs(len(l.Passages)) {
			from, to := limits(l, counts, p[0], p[1])
			if c := compare(from, below); c > 0 || c == 0 && slices.Compare(p[:], low[:]) < 0 {
				t.Fatalf("Bounds(%v, %v): low %v, not %v", l, counts, low, p)
			}
			if c := compare(to, above); c < 0 || c == 0 && slices.Compare(p[:], high[:]) < 0 {
				t.Fatalf("Bounds(%v, %v): high %v, not %v", l, counts, high, p)
			}
		}
	}
}

// proves reports whether two pairs prove that counts are not possible, in the promise's words.
func proves(l period.Log, counts []int, low, high [2]int) bool {
	below, _ := limits(l, counts, low[0], low[1])
	_, above := limits(l, counts, high[0], high[1])
	return compare(below, above) > 0 || compare(below, part(l.Period.Hi, 1)) > 0 || compare(above, part(l.Period.Lo, 1)) < 0
}

// P8.3, P8.7, G4: Bounds proves just what is not possible, and no pairs prove anything else.
func TestBothSides(t *testing.T) {
	d := dice{5}
	count := map[api.Errno]int{}
	for range 3000 {
		l, counts := d.mixed()
		_, _, possible := truePeriod(l, counts)
		low, high, _ := period.Bounds(l, counts)
		e := period.Verify(l, counts, low, high)
		if possible != (e == api.ErrProof) || !possible && e != api.OK {
			t.Fatalf("Verify(%v, %v, %v, %v) = %d", l, counts, low, high, e)
		}
		all := pairs(len(l.Passages))
		for range 30 {
			low, high = all[d.roll(0, len(all)-1)], all[d.roll(0, len(all)-1)]
			want := api.ErrProof
			if proves(l, counts, low, high) {
				want = api.OK
			}
			if e := period.Verify(l, counts, low, high); e != want || possible && e == api.OK {
				t.Fatalf("Verify(%v, %v, %v, %v) = %d, want %d", l, counts, low, high, e, want)
			}
			count[want]++
		}
	}
	if min(count[api.OK], count[api.ErrProof]) < 10000 {
		t.Errorf("too few of one kind: %v", count)
	}
}

// P8.3: what is no pair of passages, for all small numbers.
func TestNoPairs(t *testing.T) {
	for i := range 7 * 7 {
		p := [2]int{i/7 - 2, i%7 - 2}
		isPair := slices.Contains(pairs(3), p)
		a := period.Verify(example(), list(4, 5), p, [2]int{0, 1})
		b := period.Verify(example(), list(4, 5), [2]int{1, 2}, p)
		if isPair != (a != api.ErrOrder) || isPair != (b != api.ErrOrder) {
			t.Errorf("%v: %d %d", p, a, b)
		}
	}
}

// P8.8, G1: counts and periods of truths are found, in logs of all sizes.
func TestTruths(t *testing.T) {
	d := dice{6}
	count := map[api.Errno]int{}
	for range 4000 {
		l, counts, p := d.truth(d.roll(2, 8), d.pick(2, 9, 60, 300), d.pick(0, 0, 1, 3))
		least, greatest, e := period.Period(l, counts)
		if e != api.OK || compare(least, p) > 0 || compare(greatest, p) < 0 {
			t.Fatalf("Period(%v, %v) = %v %v %d, but it can be %v", l, counts, least, greatest, e, p)
		}
		all, e := period.Counts(l)
		if e == api.OK && !hasCounts(all, counts) {
			t.Fatalf("Counts(%v) = %v, without %v", l, all, counts)
		}
		for i, c := range all {
			if _, _, possible := truePeriod(l, c); !possible || i > 0 && slices.Compare(all[i-1], c) >= 0 {
				t.Fatalf("Counts(%v) = %v, with %v", l, all, c)
			}
		}
		count[e]++
	}
	if count[api.OK] < 1000 || count[api.ErrOver] < 100 {
		t.Errorf("too few of one kind: %v", count)
	}
}

// within returns a log whose spans are within those of another one.
func (d *dice) within(l period.Log) period.Log {
	narrow := func(s api.Span) api.Span {
		lo := d.roll(s.Lo, s.Hi)
		return api.Span{Lo: d.pick(s.Lo, lo), Hi: d.pick(s.Hi, d.roll(lo, s.Hi))}
	}
	l = clone(l)
	l.Period = narrow(l.Period)
	for i, p := range l.Passages {
		l.Passages[i] = narrow(p)
	}
	return l
}

// P8.9, G1: wider spans leave counts possible, and so does a last passage that is left out.
func TestMore(t *testing.T) {
	d := dice{7}
	wider, shorter := 0, 0
	for range 4000 {
		l, _, _ := d.truth(d.roll(2, 7), d.pick(3, 9, 30), d.pick(1, 2, 4))
		all, e := period.Counts(l)
		less, f := period.Counts(d.within(l))
		if e == api.OK && f != api.OK {
			t.Fatalf("Counts of a log within %v: %d", l, f)
		}
		for _, counts := range less {
			if wider++; e == api.OK && !hasCounts(all, counts) {
				t.Fatalf("Counts(%v) = %v, without %v", l, all, counts)
			}
		}
		if last := len(l.Passages) - 1; last > 1 {
			before := clone(l)
			before.Passages = before.Passages[:last]
			rest, g := period.Counts(before)
			for _, counts := range all {
				if shorter++; g == api.OK && !hasCounts(rest, counts[:last-1]) {
					t.Fatalf("Counts(%v) = %v, without %v", before, rest, counts[:last-1])
				}
				if _, _, e := period.Period(before, counts[:last-1]); e != api.OK {
					t.Fatalf("Period(%v, %v): %d", before, counts[:last-1], e)
				}
			}
		}
	}
	if min(wider, shorter) < 2000 {
		t.Errorf("too few: %d %d", wider, shorter)
	}
}

// P8.9: the period of counts within that of the same counts with wider spans.
func TestMorePeriods(t *testing.T) {
	d := dice{8}
	count := 0
	for range 5000 {
		l, counts, _ := d.truth(d.roll(2, 8), d.pick(3, 9, 30), d.pick(1, 2, 4))
		a, b, e := period.Period(d.within(l), counts)
		if e != api.OK {
			continue
		}
		from, to, e := period.Period(l, counts)
		if e != api.OK || compare(from, a) > 0 || compare(to, b) < 0 {
			t.Fatalf("Period(%v, %v) = %v %v %d, but %v %v within it", l, counts, from, to, e, a, b)
		}
		count++
	}
	if count < 1000 {
		t.Errorf("too few: %d", count)
	}
}

// P8.10, G5: numbers that are multiplied, passages that are later, and those that are
// noted by a clock that runs backwards.
func TestScales(t *testing.T) {
	d := dice{9}
	count := 0
	for range 3000 {
		l, counts := d.mixed()
		all, e := period.Counts(l)
		by, later := d.roll(2, 9), d.pick(1, 7, period.MaxTime-l.Passages[len(l.Passages)-1].Hi)
		times, after, back := scaled(l, by), moved(l, later), reversed(l, period.MaxTime)
		least, greatest, f := period.Period(l, counts)
		if trueCheck(times) == api.OK {
			count++
			got, g := period.Counts(times)
			a, b, h := period.Period(times, counts)
			if !sameCounts(got, all) || g != e || h != f || f == api.OK && (a != reduced(part(least.Num*by, least.Den)) || b != reduced(part(greatest.Num*by, greatest.Den))) {
				t.Fatalf("%v times %d: %v %d, %v %v %d", l, by, got, g, a, b, h)
			}
		}
		if got, g := period.Counts(after); !sameCounts(got, all) || g != e {
			t.Fatalf("%v moved by %d: %v %d, not %v %d", l, later, got, g, all, e)
		}
		if a, b, g := period.Period(after, counts); a != least || b != greatest || g != f {
			t.Fatalf("%v moved by %d: %v %v %d, not %v %v %d", l, later, a, b, g, least, greatest, f)
		}
		got, g := period.Counts(back)
		for _, c := range got {
			slices.Reverse(c)
		}
		slices.SortFunc(got, slices.Compare)
		if !sameCounts(got, all) || g != e {
			t.Fatalf("%v reversed: %v %d, not %v %d", l, got, g, all, e)
		}
	}
	if count < 1000 {
		t.Errorf("too few: %d", count)
	}
}

// fraction returns a valid fraction, often with small numbers.
func (d *dice) fraction() api.Ratio {
	most := d.pick(3, 12, 1000, period.MaxNum)
	return part(d.roll(0, most), d.roll(1, d.pick(12, most)))
}

// near returns a valid fraction, often close to another one.
func (d *dice) near(r api.Ratio) api.Ratio {
	if d.roll(0, 2) == 0 {
		return d.fraction()
	}
	by := max(1, min(period.MaxNum/max(r.Num, 1), period.MaxNum/r.Den))
	return part(min(period.MaxNum, max(0, r.Num*by+d.roll(-2, 2))), r.Den*by)
}

// P8.5, P8.11: no smaller Den, and no smaller Num with it, is within the bounds.
func TestSimplestAgainstDefinition(t *testing.T) {
	d := dice{10}
	count := [3]int{}
	for range 3000 {
		a := d.fraction()
		b := d.near(a)
		if compare(a, b) > 0 {
			a, b = b, a
		}
		r, e := period.Simplest(a, b)
		den := 1
		for up(a.Num*den, a.Den) > down(b.Num*den, b.Den) {
			den++
		}
		if want := part(up(a.Num*den, a.Den), den); r != want || e != api.OK {
			t.Fatalf("Simplest(%v, %v) = %v %d, want %v", a, b, r, e, want)
		}
		count[min((len(moves(part(max(1, r.Num), r.Den)))+9)/10, 2)]++
		if compare(a, b) != 0 {
			if x, f := period.Simplest(b, a); x != part(0, 0) || f != api.ErrOrder {
				t.Fatalf("Simplest(%v, %v) = %v %d", b, a, x, f)
			}
		}
	}
	if min(count[0], count[1], count[2]) < 100 {
		t.Errorf("too few of one kind: %v", count)
	}
}

// P8.11: equal bounds, in any forms.
func TestSimplestOfOne(t *testing.T) {
	d := dice{11}
	for range 5000 {
		r := reduced(d.fraction())
		most := min(period.MaxNum/max(1, r.Num), period.MaxNum/r.Den)
		a, b := d.roll(1, most), d.roll(1, most)
		if x, e := period.Simplest(part(r.Num*a, r.Den*a), part(r.Num*b, r.Den*b)); x != r || e != api.OK {
			t.Fatalf("Simplest of %v, times %d and %d: %v %d", r, a, b, x, e)
		}
	}
}

// P8.6, P8.12, G6: paths move by move, and back.
func TestPathAgainstDefinition(t *testing.T) {
	var all []api.Ratio
	for i := range 60 * 60 {
		all = append(all, part(i/60+1, i%60+1))
	}
	d := dice{12}
	for range 500 {
		r := d.fraction()
		all = append(all, part(max(1, r.Num), r.Den))
	}
	for _, r := range all {
		path, e := period.Path(r)
		if !slices.Equal(path, runs(moves(r))) || e != api.OK {
			t.Fatalf("Path(%v) = %v %d, want %s", r, path, e, moves(r))
		}
		if x, e := period.Follow(path); x != reduced(r) || e != api.OK {
			t.Fatalf("Follow(%v) = %v %d, want %v", path, x, e, r)
		}
		// The first run leads to the right: of a fraction and of 1 divided by it, one has 0 there.
		back, _ := period.Path(part(r.Den, r.Num))
		if len(path) > 0 && !slices.Equal(back, append(list(0), path...)) && !slices.Equal(path, append(list(0), back...)) || len(path) == 0 && len(back) > 0 {
			t.Fatalf("Path of %v: %v, and of 1 divided by it: %v", r, path, back)
		}
	}
}

// follow returns the fraction with a path without an error, if its Num and Den are not
// above the limit: one move after the other.
func follow(path []int) (api.Ratio, bool) {
	below, above := part(0, 1), part(1, 0)
	for i, n := range path {
		for range n {
			m := part(below.Num+above.Num, below.Den+above.Den)
			if m.Num > period.MaxNum || m.Den > period.MaxNum {
				return part(0, 0), false
			}
			if i%2 == 0 {
				below = m
			} else {
				above = m
			}
		}
	}
	m := part(below.Num+above.Num, below.Den+above.Den)
	return m, m.Num <= period.MaxNum && m.Den <= period.MaxNum
}

// P8.6, P8.12, G6: fractions of paths, and back.
func TestFollowAgainstDefinition(t *testing.T) {
	d := dice{13}
	count := map[bool]int{}
	for range 2000 {
		path := list(d.pick(0, 1, d.roll(1, 9)))
		most := d.pick(1, 2, 9, 300, 5000)
		for range d.roll(0, d.pick(3, 12, 39)) {
			path = append(path, d.roll(1, most))
		}
		if len(path) == 1 && path[0] == 0 {
			path = nil
		}
		want, fits := follow(path)
		r, e := period.Follow(path)
		if !fits {
			if want = part(0, 0); r != want || e != api.ErrOver {
				t.Fatalf("Follow(%v) = %v %d, want ErrOver", path, r, e)
			}
		} else if back, f := period.Path(want); r != want || e != api.OK || !slices.Equal(back, path) || f != api.OK {
			t.Fatalf("Follow(%v) = %v %d, want %v, whose Path is %v %d", path, r, e, want, back, f)
		}
		count[fits]++
	}
	if min(count[false], count[true]) < 300 {
		t.Errorf("too few of one kind: %v", count)
	}
}

// spelt returns the moves of a path in runs.
func spelt(path []int) string {
	out := ""
	for i, n := range path {
		out += strings.Repeat(string("RL"[i%2]), n)
	}
	return out
}

// P8.12: between two fractions, all paths begin as both of their paths do.
func TestBeginnings(t *testing.T) {
	d := dice{14}
	deep := 0
	for range 3000 {
		a := part(d.roll(1, 300), d.roll(1, 300))
		b := part(min(period.MaxNum, a.Num*d.roll(1, 40)+d.roll(0, 9)), a.Den*40)
		between := part(a.Num*b.Den+b.Num*a.Den, 2*a.Den*b.Den)
		if d.roll(0, 1) == 0 {
			between = part(a.Num+b.Num, a.Den+b.Den)
		}
		if between = reduced(between); between.Num > period.MaxNum || between.Den > period.MaxNum {
			continue
		}
		one, _ := period.Path(a)
		other, _ := period.Path(b)
		middle, e := period.Path(between)
		x, y, m := spelt(one), spelt(other), spelt(middle)
		same := 0
		for same < min(len(x), len(y)) && x[same] == y[same] {
			same++
		}
		if !strings.HasPrefix(m, x[:same]) || e != api.OK {
			t.Fatalf("%v %s, %v %s, between them %v %s", a, x, b, y, between, m)
		}
		if same > 3 {
			deep++
		}
	}
	if deep < 100 {
		t.Errorf("too few that begin in the same way: %d", deep)
	}
}
