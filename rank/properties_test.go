package rank_test

import (
	"reflect"
	"slices"
	"testing"

	"agonic/api"
	"agonic/rank"
)

// P12.1, P12.2, P12.8, G4: an order is possible just if some truth has it, and just if it
// has no fault; the fault is the first one of all that Verify accepts, and these are the
// pairs that no truth has in this order.
func TestFaults(t *testing.T) {
	d := dice{1}
	count := map[api.Errno]int{}
	for range 4000 {
		m := d.month(d.roll(1, d.pick(4, 12, 30)))
		order := d.order(m)
		switch d.roll(0, 3) {
		case 0:
			order = d.shuffled(len(m))
		case 1:
			i, k := d.roll(0, len(m)-1), d.roll(0, len(m)-1)
			order[i], order[k] = order[k], order[i]
		}
		var faults [][2]int
		for p := range order {
			for q := range order {
				is := p < q && !isTrue(m, list(order[p], order[q]))
				if is {
					faults = append(faults, [2]int{p, q})
				}
				if e := rank.Verify(m, order, p, q); (e == api.OK) != is || !is && e != api.ErrProof {
					t.Fatalf("Verify(%v, %v, %d, %d): %d, want %v", m, order, p, q, e, is)
				}
			}
		}
		want, none, first := api.OK, api.ErrNone, [2]int{}
		if !isTrue(m, order) {
			want, none = api.ErrClash, api.OK
		}
		if (len(faults) > 0) != (want == api.ErrClash) {
			t.Fatalf("%v, %v: faults %v, but %d", m, order, faults, want)
		}
		if len(faults) > 0 {
			first = faults[0]
		}
		p, q, f := rank.Fault(m, order)
		if e := rank.Possible(m, order); e != want || [2]int{p, q} != first || f != none {
			t.Fatalf("%v, %v: Possible %d, Fault %d, %d %d, want %d, %v %d", m, order, e, p, q, f, want, first, none)
		}
		count[want]++
	}
	if min(count[api.OK], count[api.ErrClash]) < 1000 {
		t.Errorf("too few of one kind: %v", count)
	}
}

// P12.3 to P12.6, P12.9 to P12.11, G3: what is told of possible orders is so in the list of
// all of them.
func TestSmallMonths(t *testing.T) {
	everySmall(2, func(m []api.Span) {
		all := trueOrders(m)
		first, e := rank.First(m)
		if n := must(rank.Count(m)); n != len(all) || !slices.Equal(first, all[0]) || e != api.OK {
			t.Fatalf("%v: Count %d, First %v %d, want %d, %v", m, n, first, e, len(all), all[0])
		}
		ranks := trueSpans(all)
		if l := must(rank.Ranks(m)); !slices.Equal(l, ranks) {
			t.Fatalf("Ranks(%v) = %v, want %v", m, l, ranks)
		}
		for i, order := range all {
			n := must(rank.Number(m, order))
			if at := must(rank.At(m, i)); n != i || !slices.Equal(at, order) {
				t.Fatalf("%v: Number(%v) = %d, At(%d) = %v", m, order, n, i, at)
			}
		}
		for k := range len(m) + 1 {
			groups := map[days]bool{}
			for _, order := range all {
				groups[daysOf(order[:k])] = true
			}
			if n := must(rank.Groups(m, k)); n != len(groups) {
				t.Fatalf("Groups(%v, %d) = %d, want %d", m, k, n, len(groups))
			}
		}
	})
}

// P12.4, P12.10, G3: days that are among the quietest in some of the possible orders, and
// in all of them.
func TestQuietestInOrders(t *testing.T) {
	everySmall(3, func(m []api.Span) {
		all := trueOrders(m)
		for k := 1; k <= len(m); k++ {
			in := make([]int, len(m))
			for _, order := range all {
				for _, day := range order[:k] {
					in[day]++
				}
			}
			var can, sure []int
			for day, n := range in {
				if n > 0 {
					can = append(can, day)
				}
				if n == len(all) {
					sure = append(sure, day)
				}
			}
			c, s, e := rank.Quietest(m, k)
			if !slices.Equal(c, can) || !slices.Equal(s, sure) || e != api.OK {
				t.Fatalf("Quietest(%v, %d) = %v, %v %d, want %v, %v", m, k, c, s, e, can, sure)
			}
		}
	})
}

// P12.7: chances are those in the list of all possible orders.
func TestChancesInOrders(t *testing.T) {
	everySmall(4, func(m []api.Span) {
		all := trueOrders(m)
		at, before := map[[2]int]int{}, map[[2]int]int{}
		for _, order := range all {
			for p, day := range order {
				at[[2]int{day, p + 1}]++
				for _, other := range order[p+1:] {
					before[[2]int{day, other}]++
				}
			}
		}
		for a := range m {
			for b := range m {
				if r, n := must(rank.Chance(m, a, b+1)), at[[2]int{a, b + 1}]; !isReduced(r, n, len(all)) {
					t.Fatalf("Chance(%v, %d, %d) = %v, want %d of %d", m, a, b+1, r, n, len(all))
				}
				if a == b {
					continue
				}
				if r, n := must(rank.Before(m, a, b)), before[[2]int{a, b}]; !isReduced(r, n, len(all)) {
					t.Fatalf("Before(%v, %d, %d) = %v, want %d of %d", m, a, b, r, n, len(all))
				}
			}
		}
	})
}

// P12.5 to P12.7: with many days, orders, groups and chances are those that are counted
// from the other end, too.
func TestLargeMonths(t *testing.T) {
	everyLarge(5, 80, 12, func(d *dice, m []api.Span) {
		w := newWays(m)
		all := w.quieter(w.whole())
		if n := must(rank.Count(m)); n != all || n != w.louder(w.whole()) {
			t.Fatalf("Count(%v) = %d, want %d", m, n, all)
		}
		groups := make([]int, len(m)+1)
		for s := range w.whole() + 1 {
			if w.quieter(s) > 0 {
				groups[len(s.list())]++
			}
		}
		for k, want := range groups {
			if n := must(rank.Groups(m, k)); n != want {
				t.Fatalf("Groups(%v, %d) = %d, want %d", m, k, n, want)
			}
		}
		for range 6 {
			a, b := d.roll(0, len(m)-1), d.roll(0, len(m)-1)
			if r, n := must(rank.Chance(m, a, b+1)), w.trueChance(a, b+1); !isReduced(r, n, all) {
				t.Fatalf("Chance(%v, %d, %d) = %v, want %d of %d", m, a, b+1, r, n, all)
			}
			if a == b {
				continue
			}
			if r, n := must(rank.Before(m, a, b)), w.trueBefore(a, b); !isReduced(r, n, all) {
				t.Fatalf("Before(%v, %d, %d) = %v, want %d of %d", m, a, b, r, n, all)
			}
		}
	})
}

// P12.5, P12.11, G6: orders and their numbers; greater numbers are those of greater orders.
func TestNumbersAndOrders(t *testing.T) {
	everyLarge(6, 100, 12, func(d *dice, m []api.Span) {
		all := must(rank.Count(m))
		first := must(rank.First(m))
		numbers := list(0, all-1)
		for range 6 {
			numbers = append(numbers, d.roll(0, all-1), min(all-1, numbers[len(numbers)-1]+1))
			order := d.order(m)
			if at := must(rank.At(m, must(rank.Number(m, order)))); !slices.Equal(at, order) {
				t.Fatalf("%v: At of the number of %v is %v", m, order, at)
			}
		}
		slices.Sort(numbers)
		numbers = slices.Compact(numbers)
		if !slices.Equal(must(rank.At(m, 0)), first) {
			t.Fatalf("%v: At(0) = %v, First %v", m, must(rank.At(m, 0)), first)
		}
		var before []int
		for _, n := range numbers {
			order := must(rank.At(m, n))
			if !isTrue(m, order) || must(rank.Number(m, order)) != n || slices.Compare(before, order) >= 0 {
				t.Fatalf("%v: At(%d) = %v after %v, Number %d", m, n, order, before, must(rank.Number(m, order)))
			}
			before = order
		}
		if order, e := rank.At(m, all); len(order) > 0 || e != api.ErrRange {
			t.Fatalf("%v: At(%d) = %v %d", m, all, order, e)
		}
	})
}

// P12.9, G1: whatever the ranges are, their order is possible, is not less than First, and
// its ranks are within Ranks; what is surely among the quietest is so there, and what is
// there can be.
func TestTruths(t *testing.T) {
	d := dice{7}
	for range 1500 {
		m := d.month(d.roll(1, 30))
		k := d.roll(1, len(m))
		ranks := must(rank.Ranks(m))
		first := must(rank.First(m))
		can, sure, _ := rank.Quietest(m, k)
		for range 5 {
			order := d.order(m)
			if e := rank.Possible(m, order); e != api.OK || slices.Compare(first, order) > 0 {
				t.Fatalf("%v has the order %v: Possible %d, First %v", m, order, e, first)
			}
			for p, day := range order {
				if p+1 < ranks[day].Lo || p+1 > ranks[day].Hi || p < k && !slices.Contains(can, day) || p >= k && slices.Contains(sure, day) {
					t.Fatalf("%v has the order %v: Ranks %v, Quietest of %d %v, %v", m, order, ranks, k, can, sure)
				}
			}
		}
	}
}

// brought returns an order in which a day comes as early as it can, or as late.
func brought(m []api.Span, day int, early bool) []int {
	var ranges []int
	for _, s := range m {
		if early {
			ranges = append(ranges, min(s.Hi, max(s.Lo, m[day].Lo)))
		} else {
			ranges = append(ranges, max(s.Lo, min(s.Hi, m[day].Hi)))
		}
	}
	first := slices.DeleteFunc(upTo(len(m)), func(other int) bool { return other == day })
	if early {
		return sorted(ranges, slices.Insert(first, 0, day))
	}
	return sorted(ranges, append(first, day))
}

// P12.3, P12.4, P12.9, P12.10, G3: with many days, both ends of Ranks occur, and days are
// among the quietest by the numbers of days that are surely quieter, and surely louder.
func TestEndsOccur(t *testing.T) {
	d := dice{8}
	for range 800 {
		m := d.month(d.roll(1, 30))
		ranks := must(rank.Ranks(m))
		for day, s := range ranks {
			early, late := brought(m, day, true), brought(m, day, false)
			if !isTrue(m, early) || slices.Index(early, day)+1 != s.Lo || !isTrue(m, late) || slices.Index(late, day)+1 != s.Hi {
				t.Fatalf("%v, day %d: %v and %v, Ranks %v", m, day, early, late, s)
			}
		}
		k := d.roll(1, len(m))
		var can, sure []int
		for day, s := range m {
			quieter, notLouder := 0, -1
			for _, other := range m {
				if other.Hi < s.Lo {
					quieter++
				}
				if other.Lo <= s.Hi {
					notLouder++
				}
			}
			if quieter < k {
				can = append(can, day)
			}
			if notLouder < k {
				sure = append(sure, day)
			}
		}
		c, l, e := rank.Quietest(m, k)
		if !slices.Equal(c, can) || !slices.Equal(l, sure) || e != api.OK {
			t.Fatalf("Quietest(%v, %d) = %v, %v %d, want %v, %v", m, k, c, l, e, can, sure)
		}
	}
}

// P12.3: with many days, First always goes on with the smallest day after which some truth
// still has an order.
func TestFirstOfMany(t *testing.T) {
	d := dice{9}
	for range 500 {
		m := d.month(d.roll(1, 30))
		var want []int
		left := upTo(len(m))
		for len(left) > 0 {
			i := slices.IndexFunc(left, func(day int) bool {
				return !slices.ContainsFunc(left, func(other int) bool { return !isTrue(m, list(day, other)) && other != day })
			})
			want = append(want, left[i])
			left = slices.Delete(left, i, i+1)
		}
		if first, e := rank.First(m); !slices.Equal(first, want) || e != api.OK {
			t.Fatalf("First(%v) = %v %d, want %v", m, first, e, want)
		}
	}
}

// P12.12, G2: chances are together 1, and there is one group of no day, and one of all.
func TestSums(t *testing.T) {
	everyLarge(10, 25, 11, func(d *dice, m []api.Span) {
		all := must(rank.Count(m))
		ranks, days := make([]int, len(m)), make([]int, len(m))
		for a := range m {
			for b := range m {
				r := must(rank.Chance(m, a, b+1))
				if all%r.Den != 0 {
					t.Fatalf("Chance(%v, %d, %d) = %v of %d orders", m, a, b+1, r, all)
				}
				n := r.Num * (all / r.Den)
				days[a] += n
				ranks[b] += n
				if a == b {
					continue
				}
				if one, other := must(rank.Before(m, a, b)), must(rank.Before(m, b, a)); one.Den != other.Den || one.Num+other.Num != one.Den {
					t.Fatalf("%v: Before(%d, %d) = %v, and back %v", m, a, b, one, other)
				}
			}
		}
		want := slices.Repeat(list(all), len(m))
		if !slices.Equal(days, want) || !slices.Equal(ranks, want) {
			t.Fatalf("%v with %d orders: days %v, ranks %v", m, all, days, ranks)
		}
		if must(rank.Groups(m, 0)) != 1 || must(rank.Groups(m, len(m))) != 1 {
			t.Fatalf("%v: Groups %d, %d", m, must(rank.Groups(m, 0)), must(rank.Groups(m, len(m))))
		}
	})
}

// P12.13, G1: what is possible in a month is so in one with wider spans.
func TestNarrowed(t *testing.T) {
	fewer := 0
	everyLarge(11, 300, 12, func(d *dice, m []api.Span) {
		narrow := d.narrowed(m)
		order := d.order(narrow)
		if e := rank.Possible(m, order); e != api.OK {
			t.Fatalf("%v is possible for %v, for %v: %d", order, narrow, m, e)
		}
		n, all := must(rank.Count(narrow)), must(rank.Count(m))
		if n > all {
			t.Fatalf("%v has %d orders, %v %d", narrow, n, m, all)
		}
		if n < all {
			fewer++
		}
		wide := must(rank.Ranks(m))
		for day, s := range must(rank.Ranks(narrow)) {
			if s.Lo < wide[day].Lo || s.Hi > wide[day].Hi {
				t.Fatalf("%v has the ranks %v of day %d, %v %v", narrow, s, day, m, wide[day])
			}
		}
	})
	if fewer < 100 {
		t.Errorf("too few have fewer orders: %d", fewer)
	}
}

// P12.13, G5: negated spans turn the possible orders around.
func TestMirrored(t *testing.T) {
	everyLarge(12, 150, 12, func(d *dice, m []api.Span) {
		other, days := mirrored(m), len(m)
		for _, order := range [][]int{d.order(m), d.shuffled(days)} {
			if e, f := rank.Possible(m, order), rank.Possible(other, backwards(order)); e != f {
				t.Fatalf("%v, %v: Possible %d, turned around %d", m, order, e, f)
			}
		}
		a, b, k := d.roll(0, days-1), d.roll(0, days-1), d.roll(0, days)
		if must(rank.Count(m)) != must(rank.Count(other)) || must(rank.Groups(m, k)) != must(rank.Groups(other, days-k)) {
			t.Fatalf("%v: %d orders, %d groups of %d", m, must(rank.Count(m)), must(rank.Groups(m, k)), k)
		}
		if one, two := must(rank.Chance(m, a, b+1)), must(rank.Chance(other, a, days-b)); one != two {
			t.Fatalf("%v: Chance(%d, %d) = %v, turned around %v", m, a, b+1, one, two)
		}
		if a != b && must(rank.Before(m, a, b)) != must(rank.Before(other, b, a)) {
			t.Fatalf("%v: Before(%d, %d) = %v, turned around %v", m, a, b, must(rank.Before(m, a, b)), must(rank.Before(other, b, a)))
		}
		ranks := must(rank.Ranks(other))
		for day, s := range must(rank.Ranks(m)) {
			if ranks[day].Lo != days+1-s.Hi || ranks[day].Hi != days+1-s.Lo {
				t.Fatalf("%v: Ranks of %d %v, turned around %v", m, day, s, ranks[day])
			}
		}
	})
}

// P12.13, G5: adding a number to all spans changes nothing.
func TestAdded(t *testing.T) {
	d := dice{13}
	moved := 0
	for range 3000 {
		q := d.question()
		most := 0
		for _, s := range q.m {
			most = max(most, s.Hi)
		}
		other := q.clone()
		n := d.pick(rank.MaxRange-most, d.roll(0, rank.MaxRange-most))
		for i := range other.m {
			other.m[i].Lo += n
			other.m[i].Hi += n
		}
		if n > 0 {
			moved++
		}
		if a, b := q.answers(), other.answers(); !reflect.DeepEqual(a, b) {
			t.Fatalf("%v: %v, with %d more %v", q, a, n, b)
		}
	}
	if moved < 1000 {
		t.Errorf("too few moved: %d", moved)
	}
}

// G5: days that get other numbers keep what is told of them.
func TestRenumbered(t *testing.T) {
	everyLarge(14, 150, 12, func(d *dice, m []api.Span) {
		of := d.shuffled(len(m))
		other := renumbered(m, of)
		days := len(m)
		a, b, k := d.roll(0, days-1), d.roll(0, days-1), d.roll(1, days)
		if must(rank.Count(m)) != must(rank.Count(other)) || must(rank.Groups(m, k)) != must(rank.Groups(other, k)) {
			t.Fatalf("%v: %d orders, %v: %d", m, must(rank.Count(m)), other, must(rank.Count(other)))
		}
		if must(rank.Chance(m, of[a], b+1)) != must(rank.Chance(other, a, b+1)) {
			t.Fatalf("%v: Chance(%d, %d) = %v, of %v %v", m, of[a], b+1, must(rank.Chance(m, of[a], b+1)), other, must(rank.Chance(other, a, b+1)))
		}
		if a != b && must(rank.Before(m, of[a], of[b])) != must(rank.Before(other, a, b)) {
			t.Fatalf("%v: Before(%d, %d) = %v, of %v %v", m, of[a], of[b], must(rank.Before(m, of[a], of[b])), other, must(rank.Before(other, a, b)))
		}
		ranks := must(rank.Ranks(m))
		can, sure, _ := rank.Quietest(m, k)
		c, s, _ := rank.Quietest(other, k)
		for day, now := range must(rank.Ranks(other)) {
			was := of[day]
			if now != ranks[was] || slices.Contains(can, was) != slices.Contains(c, day) || slices.Contains(sure, was) != slices.Contains(s, day) {
				t.Fatalf("%v, day %d, and %v, day %d: Ranks %v and %v, Quietest of %d %v %v and %v %v", m, was, other, day, ranks[was], now, k, can, sure, c, s)
			}
		}
	})
}
