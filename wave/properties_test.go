package wave_test

import (
	"slices"
	"testing"

	"agonic/api"
	"agonic/wave"
)

// checkFitting compares what follows with the equations of a record, for all hours
// that have different phases.
func checkFitting(t *testing.T, r wave.Record, q *equations) (known, lost int) {
	t.Helper()
	sun, moon, a := wave.Waves(r)
	ring, b := wave.Clash(r)
	all, c := wave.Follow(r, 0, 900)
	if wave.Fits(r) != api.OK || a != api.OK || b != api.ErrNone || c != api.OK || len(ring) > 0 || !holds(r, sun, moon) {
		t.Fatalf("%v fits: Waves %v %v %d, Clash %v %d, Follow %d", r, sun, moon, a, ring, b, c)
	}
	for hour := range 901 {
		value, follows := q.value(hour)
		if !follows {
			lost++
			continue
		}
		if known == len(all) || all[known] != (wave.Reading{Hour: hour, Value: value}) {
			t.Fatalf("%v: Follow %v, but %d at %d", r, all, value, hour)
		}
		known++
	}
	if known != len(all) {
		t.Fatalf("%v: Follow %v, but only %d of it", r, all, known)
	}
	return known, lost
}

// checkClashing expects that a record does not fit, with a ring that proves it.
func checkClashing(t *testing.T, r wave.Record) int {
	t.Helper()
	ring, e := wave.Clash(r)
	closed, clashes := trueRing(r, ring)
	if e != api.OK || !closed || !clashes || wave.Verify(r, ring) != api.OK || wave.Fits(r) != api.ErrClash {
		t.Fatalf("%v does not fit: Clash %v %d", r, ring, e)
	}
	return len(ring)
}

// P4.1 to P4.5, P4.8, G3, G4: records of all sizes, against an elimination of their readings.
func TestAgainstEquations(t *testing.T) {
	d := dice{1}
	fits, clashes, known, lost, longest := 0, 0, 0, 0, 0
	for range 4000 {
		r := d.mixed()
		q := equationsOf(r)
		if n, e := wave.Parts(r); n != r.Sun+r.Moon-len(q.rows) || e != api.OK || wave.Check(r) != api.OK {
			t.Fatalf("Parts(%v) = %d %d", r, n, e)
		}
		if q.fits {
			fits++
			k, l := checkFitting(t, r, q)
			known += k
			lost += l
			continue
		}
		clashes++
		longest = max(longest, checkClashing(t, r))
	}
	if fits < 1000 || clashes < 1000 || known < 100000 || lost < 100000 || longest < 10 {
		t.Errorf("too few of one kind: %d fit, %d clash, %d values known, %d lost, a ring of %d", fits, clashes, known, lost, longest)
	}
}

// P4.4: Value returns what Follow returns, at each of its hours.
func TestValueAndFollow(t *testing.T) {
	d := dice{2}
	for range 300 {
		r := d.fitting()
		from := d.roll(0, wave.MaxHour)
		all, e := wave.Follow(r, from, min(from+200, wave.MaxHour))
		if e != api.OK {
			t.Fatalf("Follow(%v) from %d: %d", r, from, e)
		}
		var want []wave.Reading
		for hour := from; hour <= min(from+200, wave.MaxHour); hour++ {
			value, e := wave.Value(r, hour)
			if e == api.OK {
				want = append(want, wave.Reading{Hour: hour, Value: value})
			} else if e != api.ErrLost {
				t.Fatalf("Value(%v, %d): %d", r, hour, e)
			}
		}
		if !slices.Equal(all, want) {
			t.Fatalf("Follow(%v) from %d: %v, Value %v", r, from, all, want)
		}
	}
}

// P4.2: the waves are 0 where the parts begin.
func TestWavesBegin(t *testing.T) {
	d := dice{3}
	for range 2000 {
		r := d.fitting()
		sun, moon, _ := wave.Waves(r)
		var begun []int
		for n, p := range trueParts(r) {
			if slices.Contains(begun, p) {
				continue
			}
			begun = append(begun, p)
			if slices.Concat(sun, moon)[n] != 0 {
				t.Fatalf("%v: %v %v at node %d", r, sun, moon, n)
			}
		}
		if n, _ := wave.Parts(r); n != len(begun) {
			t.Fatalf("Parts(%v) = %d, want %d", r, n, len(begun))
		}
	}
}

// P4.5: Verify of walks over readings, some of which close, and of lists of any numbers.
func TestVerifyWalks(t *testing.T) {
	d := dice{4}
	count := map[api.Errno]int{}
	for range 30000 {
		r := d.mixed()
		ring := d.walk(r, list(2, 4, 6, 60)[d.roll(0, 3)])
		if len(ring) > 0 && d.roll(0, 9) == 0 {
			ring[d.roll(0, len(ring)-1)] = d.roll(-1, len(r.Readings))
		}
		closed, clashes := trueRing(r, ring)
		e := wave.Verify(r, ring)
		count[e]++
		if closed != (e == api.OK || e == api.ErrProof) || clashes != (e == api.OK) {
			t.Fatalf("Verify(%v, %v) = %d, but closed %v, clashes %v", r, ring, e, closed, clashes)
		}
		if e == api.OK && wave.Fits(r) != api.ErrClash {
			t.Fatalf("%v fits, but %v is accepted", r, ring)
		}
	}
	for _, e := range []api.Errno{api.OK, api.ErrNone, api.ErrOrder, api.ErrProof} {
		if count[e] < 300 {
			t.Errorf("too few of one kind: %v", count)
		}
	}
}

// P4.5, P4.8: the only ring of a record can have 58 elements, or be reached over many readings.
func TestLongRings(t *testing.T) {
	for phases := 2; phases <= 29; phases++ {
		for back := 0; back <= phases-2; back += 6 {
			checkLasso(t, 30, 29, phases, back)
			checkLasso(t, 29, 30, phases, back)
		}
	}
}

func checkLasso(t *testing.T, sun, moon, phases, back int) {
	t.Helper()
	r, ring := lasso(sun, moon, phases, back)
	if len(r.Readings) != 2*phases || len(ring) != 2*(phases-back) || wave.Verify(r, ring) != api.ErrProof {
		t.Fatalf("no lasso: %v %v", r, ring)
	}
	checkFitting(t, r, equationsOf(r))
	for i, x := range ring {
		r.Readings[x].Value = wave.MaxValue * (1 - 2*(i%2))
	}
	if n := checkClashing(t, r); n != len(ring) {
		t.Fatalf("a ring of %d, want %d", n, len(ring))
	}
	want := slices.Sorted(slices.Values(ring))
	if l, e := wave.Suspects(r); !slices.Equal(l, want) || e != api.OK {
		t.Fatalf("Suspects(%v) = %v %d, want %v", r, l, e, want)
	}
	// Without one of them the waves rise by twice the greatest value from phase to phase.
	open := without(r, ring[len(ring)/2])
	checkFitting(t, open, equationsOf(open))
}

// P4.6: suspects against an elimination without each reading.
func TestSuspectsAgainstEquations(t *testing.T) {
	d := dice{5}
	count := [4]int{}
	for range 1500 {
		r := d.mixed()
		var want []int
		for i := range r.Readings {
			if equationsOf(without(r, i)).fits {
				want = append(want, i)
			}
		}
		if l, e := wave.Suspects(r); !slices.Equal(l, want) || e != api.OK {
			t.Fatalf("Suspects(%v) = %v %d, want %v", r, l, e, want)
		}
		if !equationsOf(r).fits {
			count[min(len(want), 3)]++
		}
	}
	if slices.Min(count[:]) < 30 {
		t.Errorf("too few of one kind: %v", count)
	}
}

// P4.9, P4.10, G1, G3: the values of any waves follow where Value returns one; where it
// does not, other waves of the same readings have every other value there.
func TestTruth(t *testing.T) {
	d := dice{6}
	known, lost := 0, 0
	for range 3000 {
		r := d.fitting()
		sun, moon := d.truth(r, 400000)
		r = of(r, sun, moon)
		part := trueParts(r)
		for range 20 {
			hour := d.roll(0, wave.MaxHour)
			value, e := wave.Value(r, hour)
			if e == api.OK && value == at(sun, moon, hour) {
				known++
				continue
			}
			wish := d.roll(-9999999, 9999999)
			a, b := lifted(sun, moon, part, part[hour%r.Sun], wish-at(sun, moon, hour))
			if e != api.ErrLost || !holds(r, a, b) || at(a, b, hour) != wish {
				t.Fatalf("Value(%v, %d) = %d %d, the truth %d", r, hour, value, e, at(sun, moon, hour))
			}
			lost++
		}
	}
	if known < 5000 || lost < 5000 {
		t.Errorf("too few of one kind: %d %d", known, lost)
	}
}

// P4.10: any waves result from those of Waves by one number for each part; and all that
// result are waves of the record.
func TestFreedom(t *testing.T) {
	d := dice{7}
	for range 3000 {
		r := d.fitting()
		sun, moon := d.truth(r, 400000)
		r = of(r, sun, moon)
		a, b, e := wave.Waves(r)
		if e != api.OK {
			t.Fatalf("Waves(%v): %d", r, e)
		}
		part := trueParts(r)
		for n, p := range part {
			if n == p && n < r.Sun {
				a, b = lifted(a, b, part, p, sun[n]-a[n])
			}
			if n == p && n >= r.Sun {
				a, b = lifted(a, b, part, p, b[n-r.Sun]-moon[n-r.Sun])
			}
		}
		if !slices.Equal(a, sun) || !slices.Equal(b, moon) {
			t.Fatalf("Waves(%v) and the parts %v lead to %v %v, not to %v %v", r, part, a, b, sun, moon)
		}
		a, b = lifted(a, b, part, part[d.roll(0, r.Sun+r.Moon-1)], d.roll(-99, 99))
		if !holds(r, a, b) {
			t.Fatalf("%v does not have %v %v", r, a, b)
		}
	}
}

// P4.7, P4.11: so many hours in a row let all values follow, and one less does not; for all periods.
func TestEnoughHours(t *testing.T) {
	d := dice{8}
	for sun := 1; sun <= wave.MaxPeriod; sun++ {
		for moon := 1; moon <= wave.MaxPeriod; moon++ {
			n, e := wave.Enough(sun, moon)
			common := 1
			for c := 2; c <= min(sun, moon); c++ {
				if sun%c == 0 && moon%c == 0 {
					common = c
				}
			}
			if n != sun+moon-common || e != api.OK {
				t.Fatalf("Enough(%d, %d) = %d %d", sun, moon, n, e)
			}
			start := list(0, wave.MaxHour-n+1, d.roll(0, 90000))[d.roll(0, 2)]
			r := wave.Record{Sun: sun, Moon: moon}
			for h := range n {
				r.Readings = append(r.Readings, wave.Reading{Hour: start + h})
			}
			a, b := d.truth(r, 400000)
			r = of(r, a, b)
			all, e := wave.Follow(r, 0, 900)
			if len(all) != 901 || e != api.OK || slices.ContainsFunc(all, func(x wave.Reading) bool { return x.Value != at(a, b, x.Hour) }) {
				t.Fatalf("%d hours in a row from %d, periods %d %d: %d values follow", n, start, sun, moon, len(all))
			}
			for _, i := range list(0, n-1) {
				some, e := wave.Follow(without(r, i), 0, 900)
				if len(some) == 901 || e != api.OK {
					t.Fatalf("%d hours in a row, periods %d %d: all values follow", n-1, sun, moon)
				}
			}
		}
	}
}

// values returns the values at all hours that have different phases, and which follow.
func values(r wave.Record, start int) (v []int, lost []bool) {
	for hour := start; hour < start+r.Sun*r.Moon; hour++ {
		x, e := wave.Value(r, hour)
		v = append(v, x)
		lost = append(lost, e == api.ErrLost)
	}
	return v, lost
}

// P4.12, G5: values of sums are sums of values.
func TestSums(t *testing.T) {
	d := dice{9}
	for range 150 {
		sun, moon := d.roll(1, 8), d.roll(1, 8)
		r := d.hours(sun, moon, d.roll(0, sun+moon), 0, 9999)
		a, b := d.truth(r, 200000)
		e, f := d.truth(r, 200000)
		one, two, both := of(r, a, b), of(r, e, f), clone(r)
		for i := range r.Readings {
			both.Readings[i].Value = one.Readings[i].Value + two.Readings[i].Value
		}
		x, lostX := values(one, 0)
		y, lostY := values(two, 0)
		z, lostZ := values(both, 0)
		for i := range z {
			if z[i] != x[i]+y[i] {
				t.Fatalf("%v: %v and %v add up to %v", both, x, y, z)
			}
		}
		if !slices.Equal(lostX, lostY) || !slices.Equal(lostX, lostZ) {
			t.Fatalf("%v: lost %v, %v, %v", both, lostX, lostY, lostZ)
		}
	}
}

// P4.12, G5: origin and names have no influence on what a record tells.
func TestSymmetry(t *testing.T) {
	d := dice{10}
	clashing := 0
	for range 300 {
		r := d.mixed()
		if len(r.Readings) == 0 || r.Sun*r.Moon > 100 {
			continue
		}
		parts, _ := wave.Parts(r)
		suspects, _ := wave.Suspects(r)
		by := d.roll(-r.Readings[0].Hour, wave.MaxHour-r.Readings[len(r.Readings)-1].Hour)
		for _, other := range []wave.Record{moved(r, by), exchanged(r)} {
			n, a := wave.Parts(other)
			l, b := wave.Suspects(other)
			if n != parts || a != api.OK || !slices.Equal(l, suspects) || b != api.OK || wave.Fits(other) != wave.Fits(r) {
				t.Fatalf("%v: %d %v, %v: %d %v", r, parts, suspects, other, n, l)
			}
		}
		if wave.Fits(r) != api.OK {
			clashing++
			continue
		}
		start := max(0, -by)
		v, lost := values(r, start)
		w, gone := values(moved(r, by), start+by)
		if !slices.Equal(v, w) || !slices.Equal(lost, gone) {
			t.Fatalf("%v, moved by %d: %v, %v", r, by, v, w)
		}
		w, gone = values(exchanged(r), start)
		a, e := wave.Follow(r, start, start+100)
		b, f := wave.Follow(exchanged(r), start, start+100)
		if !slices.Equal(v, w) || !slices.Equal(lost, gone) || !slices.Equal(a, b) || e != f {
			t.Fatalf("%v, exchanged: %v, %v, %v, %v", r, v, w, a, b)
		}
	}
	if clashing < 30 {
		t.Errorf("only %d do not fit", clashing)
	}
}

// P4.13, G7: a single changed reading is a suspect, whether the record then fits or not.
func TestChangedReading(t *testing.T) {
	d := dice{11}
	count := [2]int{}
	for range 2000 {
		r := d.fitting()
		if len(r.Readings) == 0 {
			continue
		}
		i := d.roll(0, len(r.Readings)-1)
		x := changed(r, i, list(1, -1, d.roll(-99, 99))[d.roll(0, 2)])
		if wave.Check(x) != api.OK {
			continue
		}
		if wave.Fits(x) == api.OK {
			count[0]++
		} else {
			count[1]++
		}
		if l, e := wave.Suspects(x); !slices.Contains(l, i) || e != api.OK {
			t.Fatalf("Suspects(%v) = %v %d, but %d was changed", x, l, e, i)
		}
	}
	if count[0] < 100 || count[1] < 100 {
		t.Errorf("too few of one kind: %v", count)
	}
}
