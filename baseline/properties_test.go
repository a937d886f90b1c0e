package baseline_test

import (
	"slices"
	"testing"

	"agonic/api"
	"agonic/baseline"
)

// checkTruths compares all that depends on steps with an enumeration of the truths.
func checkTruths(t *testing.T, s baseline.Sheet, steps []int) api.Errno {
	t.Helper()
	want := api.OK
	if !trueExplains(s, steps) {
		want = api.ErrClash
	}
	highest, f := baseline.Highest(s, steps)
	if e := baseline.Explains(s, steps); e != want || f != want || want != api.OK && len(highest) != 0 {
		t.Fatalf("Explains(%v, %v) = %d, Highest %v %d, want %d", s, steps, e, highest, f, want)
	}
	suspects, e := baseline.Suspects(s, steps)
	if !slices.Equal(suspects, trueSuspects(s, steps)) || e != api.OK {
		t.Fatalf("Suspects(%v, %v) = %v %d, want %v", s, steps, suspects, e, trueSuspects(s, steps))
	}
	for h, values := range truths(s, steps) {
		v, some, ok := values.ends()
		result := want
		if want == api.OK && (!ok || !some) {
			t.Fatalf("%v, %v: values with gaps at %d", s, steps, h)
		}
		if want == api.OK && values == everything() {
			v, result = api.Span{}, api.ErrLost
		}
		if want == api.ErrClash {
			v = api.Span{}
		}
		if got, e := baseline.Value(s, steps, h); got != v || e != result {
			t.Fatalf("Value(%v, %v, %d) = %v %d, want %v %d", s, steps, h, got, e, v, result)
		}
		for i, a := range s.Absolutes {
			if want == api.OK && a.Hour == h && highest[i] != v.Hi {
				t.Fatalf("Highest(%v, %v) = %v, at hour %d: %d", s, steps, highest, h, v.Hi)
			}
		}
	}
	return want
}

// P2.2, P2.5, P2.6, P2.7, P2.9, P2.13, G1, G3: against an enumeration of all truths.
func TestAgainstTruths(t *testing.T) {
	d := dice{1}
	count := map[api.Errno]int{}
	for range 6000 {
		s := d.sheet(lastHour, mostValue, mostDrift)
		count[checkTruths(t, s, d.steps(lastHour))]++
	}
	if count[api.OK] < 1000 || count[api.ErrClash] < 1000 {
		t.Errorf("too few of one kind: %v", count)
	}
}

// The same for all sheets of three absolutes in a row whose values are from 0 to 2.
func TestSmallSheets(t *testing.T) {
	var values []api.Span
	for lo := range 3 {
		for hi := lo; hi < 3; hi++ {
			values = append(values, span(lo, hi))
		}
	}
	for _, a := range values {
		for _, b := range values {
			for _, c := range values {
				for drift := range 4 {
					s := sheet(drift%2, drift/2, 1, a.Lo, a.Hi, 2, b.Lo, b.Hi, 3, c.Lo, c.Hi)
					for _, steps := range [][]int{nil, {1}, {2}, {0, 3}, {1, 2}} {
						checkTruths(t, s, steps)
					}
				}
			}
		}
	}
}

// longest returns how many pairs that need a step can be apart, at most.
func longest(s baseline.Sheet) int {
	best := make([]int, len(s.Absolutes))
	for j := range best {
		for i := range j {
			best[j] = max(best[j], best[i])
			if trueNeeds(s, i, j) {
				best[j] = max(best[j], best[i]+1)
			}
		}
	}
	return best[len(best)-1]
}

// P2.3, P2.4, P2.8, G4: against all lists of steps, and the most pairs that are apart.
func TestFewestIsFewest(t *testing.T) {
	d := dice{2}
	count := [lastHour + 1]int{}
	for range 600 {
		s := d.sheet(lastHour, mostValue, mostDrift-d.roll(0, 1)*mostDrift)
		steps, e := baseline.Fewest(s)
		want := trueFewest(s)
		if !slices.Equal(steps, want) || e != api.OK {
			t.Fatalf("Fewest(%v) = %v %d, want %v", s, steps, e, want)
		}
		proof, e := baseline.Pairs(s)
		if len(proof) != len(want) || longest(s) != len(want) || e != api.OK || !apart(proof, len(s.Absolutes)) {
			t.Fatalf("Pairs(%v) = %v %d, want %d", s, proof, e, len(want))
		}
		for _, p := range proof {
			if !trueNeeds(s, p.First, p.Second) {
				t.Fatalf("%v: the pair %v needs no step", s, p)
			}
		}
		for i := range s.Absolutes {
			for j := range i {
				if e := baseline.Verify(s, pairs(j, i)); (e == api.OK) != trueNeeds(s, j, i) || e != api.OK && e != api.ErrProof {
					t.Fatalf("Verify(%v, %d and %d) = %d", s, j, i, e)
				}
			}
		}
		count[len(want)]++
	}
	if count[0] < 20 || count[1] < 20 || count[2] < 20 || count[3] < 20 {
		t.Errorf("too few of one length: %v", count)
	}
}

// P2.3, P2.4, P2.8: sheets of full size.
func TestLargeSheets(t *testing.T) {
	d := dice{3}
	for range 1000 {
		s := d.drifting(d.roll(1, baseline.MaxAbsolutes))
		steps, _ := baseline.Fewest(s)
		proof, _ := baseline.Pairs(s)
		if len(steps) != len(proof) || baseline.Verify(s, proof) != api.OK || baseline.Explains(s, steps) != api.OK {
			t.Fatalf("%v: Fewest %v, Pairs %v", s, steps, proof)
		}
		// No step can be later while those before it stay, without one more.
		for i := range steps {
			later := slices.Clone(steps)
			later[i]++
			if (i+1 == len(steps) || later[i] < later[i+1]) && baseline.Explains(s, later) == api.OK {
				t.Fatalf("%v: Fewest %v, but %v is greater", s, steps, later)
			}
		}
		for range 20 {
			l := d.hours(6, len(s.Absolutes)-1)
			var some []baseline.Pair
			for i := range len(l) - 1 {
				some = append(some, baseline.Pair{First: l[i], Second: l[i+1]})
			}
			if baseline.Verify(s, some) == api.OK && len(some) > len(steps) {
				t.Fatalf("%v: Fewest %v, but %v is accepted", s, steps, some)
			}
		}
	}
}

// P2.9, G1, G3: a baseline can have the ends of Value and all numbers between, and no other one.
func TestEndsOfValue(t *testing.T) {
	d := dice{4}
	for range 3000 {
		s := d.drifting(d.roll(1, 38))
		steps, _ := baseline.Fewest(s)
		hour := d.roll(0, s.Absolutes[len(s.Absolutes)-1].Hour+20)
		v, e := baseline.Value(s, steps, hour)
		if e != api.OK {
			t.Fatalf("Value(%v, %v, %d): %d", s, steps, hour, e)
		}
		for _, value := range list(v.Lo, v.Hi, d.roll(v.Lo, v.Hi)) {
			if e := baseline.Explains(fixed(s, hour, value), steps); e != api.OK {
				t.Fatalf("%v, %v: not %d at %d: %d", s, steps, value, hour, e)
			}
		}
		at := slices.IndexFunc(s.Absolutes, func(a baseline.Absolute) bool { return a.Hour == hour })
		for _, value := range list(v.Lo-1, v.Hi+1) {
			own := at >= 0 && (value < s.Absolutes[at].Value.Lo || value > s.Absolutes[at].Value.Hi)
			if e := baseline.Explains(fixed(s, hour, value), steps); !own && e != api.ErrClash {
				t.Fatalf("%v, %v: %d at %d: %d", s, steps, value, hour, e)
			}
		}
	}
}

// P2.10: one baseline has all values of Highest, and none has a greater one.
func TestHighestAtOnce(t *testing.T) {
	d := dice{5}
	for range 1000 {
		s := d.drifting(d.roll(1, baseline.MaxAbsolutes))
		steps, _ := baseline.Fewest(s)
		highest, e := baseline.Highest(s, steps)
		if e != api.OK || len(highest) != len(s.Absolutes) {
			t.Fatalf("Highest(%v, %v) = %v %d", s, steps, highest, e)
		}
		top := clone(s)
		for i, v := range highest {
			top.Absolutes[i].Value = span(v, v)
			above := fixed(s, s.Absolutes[i].Hour, v+1)
			if v > s.Absolutes[i].Value.Hi || v < s.Absolutes[i].Value.Hi && baseline.Explains(above, steps) != api.ErrClash {
				t.Fatalf("Highest(%v, %v) = %v, but not at %d", s, steps, highest, i)
			}
		}
		if e := baseline.Explains(top, steps); e != api.OK {
			t.Fatalf("Highest(%v, %v) = %v: not at once", s, steps, highest)
		}
	}
}

// P2.11, G1: less knowledge makes nothing impossible.
func TestMoreIsPossible(t *testing.T) {
	d := dice{6}
	for range 2000 {
		s := d.drifting(d.roll(2, 20))
		steps, _ := baseline.Fewest(s)
		rise, fall, wide := clone(s), clone(s), clone(s)
		rise.Rise += d.roll(1, 50)
		fall.Fall += d.roll(1, 50)
		i := d.roll(0, len(s.Absolutes)-1)
		wide.Absolutes[i].Value.Lo -= d.roll(0, 100)
		wide.Absolutes[i].Value.Hi += d.roll(0, 100)
		for _, other := range []baseline.Sheet{rise, fall, wide, without(s, i)} {
			if fewer, e := baseline.Fewest(other); len(fewer) > len(steps) || e != api.OK {
				t.Fatalf("Fewest(%v) = %v, of %v: %v", s, steps, other, fewer)
			}
			if e := baseline.Explains(other, steps); e != api.OK {
				t.Fatalf("%v explain %v, but not %v: %d", steps, s, other, e)
			}
		}
		hour, step := d.roll(0, 300), d.roll(0, 300)
		if slices.Contains(steps, step) {
			continue
		}
		more := append(slices.Clone(steps), step)
		slices.Sort(more)
		v, e := baseline.Value(s, steps, hour)
		w, f := baseline.Value(s, more, hour)
		if e != api.OK || f != api.ErrLost && (f != api.OK || w.Lo > v.Lo || w.Hi < v.Hi) {
			t.Fatalf("Value(%v, %v, %d) = %v %d, with %d %v %d", s, steps, hour, v, e, step, w, f)
		}
	}
}

// moved returns a list of numbers, each plus n.
func moved(l []int, n int) []int {
	out := slices.Clone(l)
	for i := range out {
		out[i] += n
	}
	return out
}

// P2.12, G5: values negated, values moved, and hours moved.
func TestTurned(t *testing.T) {
	d := dice{7}
	for range 2000 {
		s := d.drifting(d.roll(1, 20))
		steps, _ := baseline.Fewest(s)
		higher, later := d.roll(-900, 900), d.roll(0, 9000)
		turned, raised, delayed := clone(s), clone(s), clone(s)
		turned.Rise, turned.Fall = s.Fall, s.Rise
		for i, a := range s.Absolutes {
			turned.Absolutes[i].Value = span(-a.Value.Hi, -a.Value.Lo)
			raised.Absolutes[i].Value = span(a.Value.Lo+higher, a.Value.Hi+higher)
			delayed.Absolutes[i].Hour += later
		}
		a, _ := baseline.Fewest(turned)
		b, _ := baseline.Fewest(raised)
		c, _ := baseline.Fewest(delayed)
		if !slices.Equal(a, steps) || !slices.Equal(b, steps) || !slices.Equal(c, moved(steps, later)) {
			t.Fatalf("Fewest(%v) = %v, turned %v, raised %v, delayed by %d %v", s, steps, a, b, later, c)
		}
		hour := d.roll(0, 500)
		v, e := baseline.Value(s, steps, hour)
		down, f := baseline.Value(turned, steps, hour)
		up, g := baseline.Value(raised, steps, hour)
		same, h := baseline.Value(delayed, c, hour+later)
		if down != span(-v.Hi, -v.Lo) || up != span(v.Lo+higher, v.Hi+higher) || same != v || e != f || e != g || e != h {
			t.Fatalf("Value(%v, %v, %d) = %v %d, turned %v %d, raised %v %d, delayed %v %d", s, steps, hour, v, e, down, f, up, g, same, h)
		}
		top, _ := baseline.Highest(s, steps)
		raisedTop, _ := baseline.Highest(raised, steps)
		sameTop, _ := baseline.Highest(delayed, c)
		if !slices.Equal(raisedTop, moved(top, higher)) || !slices.Equal(sameTop, top) {
			t.Fatalf("Highest(%v, %v) = %v, raised %v, delayed %v", s, steps, top, raisedTop, sameTop)
		}
		few := steps[:len(steps)/2]
		first, _ := baseline.Suspects(s, few)
		second, _ := baseline.Suspects(turned, few)
		third, _ := baseline.Suspects(delayed, moved(few, later))
		if !slices.Equal(first, second) || !slices.Equal(first, third) {
			t.Fatalf("Suspects(%v, %v) = %v, turned %v, delayed %v", s, few, first, second, third)
		}
	}
}

// P2.13, G3: suspects, and no others, explain everything if they are left out.
func TestSuspectsExplain(t *testing.T) {
	d := dice{8}
	count := map[int]int{}
	for range 3000 {
		s := d.drifting(d.roll(2, 20))
		steps, _ := baseline.Fewest(s)
		if l, e := baseline.Suspects(s, steps); !slices.Equal(l, upTo(len(s.Absolutes))) || e != api.OK {
			t.Fatalf("Suspects(%v, %v) = %v %d, but they explain the sheet", s, steps, l, e)
		}
		if len(steps) == 0 {
			continue
		}
		at := d.roll(0, len(steps)-1)
		fewer := slices.Delete(slices.Clone(steps), at, at+1)
		l, e := baseline.Suspects(s, fewer)
		var want []int
		for i := range s.Absolutes {
			if baseline.Explains(without(s, i), fewer) == api.OK {
				want = append(want, i)
			}
		}
		if !slices.Equal(l, want) || e != api.OK {
			t.Fatalf("Suspects(%v, %v) = %v %d, want %v", s, fewer, l, e, want)
		}
		count[min(len(l), 2)]++
	}
	if count[0] < 20 || count[1] < 20 || count[2] < 20 {
		t.Errorf("too few of one length: %v", count)
	}
}
