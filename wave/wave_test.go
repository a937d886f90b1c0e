package wave_test

import (
	"math"
	"slices"
	"testing"

	"agonic/api"
	"agonic/wave"
)

// Terms, Limits: the chapter's limits.
func TestLimits(t *testing.T) {
	got := list(wave.MaxPeriod, wave.MaxReadings, wave.MaxHour, wave.MaxValue, wave.MaxRing)
	if want := list(30, 60, 100000, 1000000, 60); !slices.Equal(got, want) {
		t.Errorf("limits %v, want %v", got, want)
	}
}

type badRecord struct {
	r wave.Record
	e api.Errno
}

// badRecords are records with errors, in the order in which they are examined.
func badRecords() []badRecord {
	many := make([]wave.Reading, 61)
	return []badRecord{
		{record(0, 1), api.ErrRange},
		{record(1, 0), api.ErrRange},
		{record(31, 30), api.ErrRange},
		{record(30, 31), api.ErrRange},
		{record(-3, 2), api.ErrRange},
		{record(3, -2), api.ErrRange},
		{record(math.MinInt, math.MaxInt), api.ErrRange},
		{record(math.MaxInt, 1), api.ErrRange},
		{wave.Record{Sun: 0, Moon: 1, Readings: many}, api.ErrRange},
		{wave.Record{Sun: 1, Moon: 31, Readings: many}, api.ErrRange},
		{record(0, 1, 5, 0, 5, 0), api.ErrRange},
		{wave.Record{Sun: 1, Moon: 1, Readings: many}, api.ErrMany},
		{wave.Record{Sun: 30, Moon: 30, Readings: slices.Repeat(readings(-1, 1000001), 61)}, api.ErrMany},
		{wave.Record{Sun: 30, Moon: 30, Readings: make([]wave.Reading, 60)}, api.ErrOrder},
		{record(3, 2, -1, 0), api.ErrRange},
		{record(3, 2, 100001, 0), api.ErrRange},
		{record(3, 2, 0, 1000001), api.ErrRange},
		{record(3, 2, 0, -1000001), api.ErrRange},
		{record(3, 2, math.MinInt, 0), api.ErrRange},
		{record(3, 2, math.MaxInt, 0), api.ErrRange},
		{record(3, 2, 0, math.MinInt), api.ErrRange},
		{record(3, 2, 0, math.MaxInt), api.ErrRange},
		{record(3, 2, 5, 1, -1, 1), api.ErrRange},
		{record(3, 2, 5, 1, 5, 1000001), api.ErrRange},
		{record(3, 2, 5, 1, 4, -1000001), api.ErrRange},
		{record(3, 2, 5, 1, 5, 1), api.ErrOrder},
		{record(3, 2, 5, 1, 4, 1), api.ErrOrder},
		{record(3, 2, 5, 1, 4, 1, 4, 9999999), api.ErrOrder},
		{record(3, 2, 5, 1, 7, 9999999, 6, 1), api.ErrRange},
		{record(3, 2, 5, 1, 7, 1, 6, 1), api.ErrOrder},
		{record(3, 2, 5, 1, 7, 1, 7, 1), api.ErrOrder},
	}
}

// failures returns the errors of all functions, and expects zero values beside them.
func failures(t *testing.T, r wave.Record, hour, from, to int, ring []int) []api.Errno {
	t.Helper()
	sun, moon, a := wave.Waves(r)
	parts, b := wave.Parts(r)
	value, c := wave.Value(r, hour)
	known, d := wave.Follow(r, from, to)
	clash, e := wave.Clash(r)
	suspects, f := wave.Suspects(r)
	if a != api.OK && len(sun)+len(moon) > 0 || b != api.OK && parts != 0 || c != api.OK && value != 0 || d != api.OK && len(known) > 0 || e != api.OK && len(clash) > 0 || f != api.OK && len(suspects) > 0 {
		t.Errorf("%v, an error and %v %v, %v, %v, %v, %v, %v", r, sun, moon, parts, value, known, clash, suspects)
	}
	return []api.Errno{wave.Check(r), wave.Fits(r), a, b, c, d, e, wave.Verify(r, ring), f}
}

// P4.1 and the first error of each function.
func TestBadRecords(t *testing.T) {
	for i, x := range badRecords() {
		for j, e := range failures(t, x.r, -1, 1, 0, nil) {
			if e != x.e {
				t.Errorf("record %d, function %d: %d, want %d", i, j, e, x.e)
			}
		}
	}
}

// P4.1: records without errors, and what the functions say of their other arguments.
func TestGoodRecords(t *testing.T) {
	full := wave.Record{Sun: 30, Moon: 30}
	for h := range 60 {
		full.Readings = append(full.Readings, wave.Reading{Hour: 100000 - 59 + h, Value: h % 30})
	}
	for i, r := range []wave.Record{right(), less(), full, record(1, 1), record(30, 30), record(30, 1, 0, -1000000, 100000, 1000000), record(1, 30, 0, 1000000, 100000, -1000000), record(1, 1, 4, 5, 9, 5)} {
		want := []api.Errno{api.OK, api.OK, api.OK, api.OK, api.ErrRange, api.ErrRange, api.ErrNone, api.ErrShape, api.OK}
		if got := failures(t, r, -1, 1, 0, nil); !slices.Equal(got, want) {
			t.Errorf("record %d: %v", i, got)
		}
	}
	for i, r := range []wave.Record{wrong(), changed(full, 3, 1), record(1, 1, 4, 5, 9, 6), record(2, 2, 0, 1, 1, 0, 2, 1, 4, 1, 100000, 2)} {
		want := []api.Errno{api.OK, api.ErrClash, api.ErrClash, api.OK, api.ErrClash, api.ErrClash, api.OK, api.ErrShape, api.OK}
		if got := failures(t, r, -1, 1, 0, nil); !slices.Equal(got, want) {
			t.Errorf("clashing record %d: %v", i, got)
		}
	}
}

// P4.2, P4.3: waves and parts, worked out by hand; nodes without readings are parts.
func TestWaves(t *testing.T) {
	for i, x := range []struct {
		r         wave.Record
		sun, moon []int
		parts     int
	}{
		{right(), list(0, -1, 1), list(15, 24), 1},
		{less(), list(0, -75, 1), list(15, 98), 1},
		{record(3, 2), list(0, 0, 0), list(0, 0), 5},
		{record(1, 1), list(0), list(0), 2},
		{record(1, 1, 7, -9), list(0), list(-9), 1},
		{record(30, 30), make([]int, 30), make([]int, 30), 60},
		{record(2, 2, 0, 7, 1, 9), list(0, 0), list(7, 9), 2},
		{record(2, 2, 4, 7), list(0, 0), list(7, 0), 3},
		{record(2, 3, 1, 5, 2, 8), list(0, 0), list(0, 5, 8), 3},
		{record(4, 2, 0, 1, 1, 2, 2, 3, 3, 4), list(0, 0, 2, 2), list(1, 2), 2},
		// The part of the sun phases 1 and 3 is 0 at the phase 1, though a reading of 3 comes first.
		{record(4, 2, 3, 6, 5, 4), list(0, 0, 0, 2), list(0, 4), 4},
		{record(1, 3, 0, 5, 1, 6, 2, 7, 3, 5), list(0), list(5, 6, 7), 1},
		{record(3, 1, 0, 5, 1, 6, 2, 7, 3, 5), list(0, 1, 2), list(5), 1},
	} {
		sun, moon, e := wave.Waves(x.r)
		parts, f := wave.Parts(x.r)
		if !slices.Equal(sun, x.sun) || !slices.Equal(moon, x.moon) || e != api.OK || parts != x.parts || f != api.OK {
			t.Errorf("%d: Waves %v %v %d, Parts %d %d", i, sun, moon, e, parts, f)
		}
	}
	if n, e := wave.Parts(wrong()); n != 1 || e != api.OK {
		t.Errorf("Parts of a record that does not fit: %d %d", n, e)
	}
}

// P4.4: values, those that do not follow, and hours that are none.
func TestValue(t *testing.T) {
	bridge := record(3, 2, 0, 15, 1, 4, 4, 6)
	for i, x := range []struct {
		r           wave.Record
		hour, value int
		e           api.Errno
	}{
		{right(), 0, 15, api.OK},
		{right(), 4, 14, api.OK},
		{right(), 5, 25, api.OK},
		{right(), 6, 15, api.OK},
		{right(), 100000, 14, api.OK},
		{less(), 3, 98, api.OK},
		{less(), 4, -60, api.OK},
		{bridge, 3, 13, api.OK},
		{bridge, 2, 0, api.ErrLost},
		{bridge, 5, 0, api.ErrLost},
		{record(3, 2), 0, 0, api.ErrLost},
		{record(3, 2, 6, 15), 0, 15, api.OK},
		{record(3, 2, 6, 15), 1, 0, api.ErrLost},
		{record(3, 2, 6, 15), 3, 0, api.ErrLost},
		{right(), -1, 0, api.ErrRange},
		{right(), 100001, 0, api.ErrRange},
		{right(), math.MinInt, 0, api.ErrRange},
		{right(), math.MaxInt, 0, api.ErrRange},
		{record(3, 2), 100001, 0, api.ErrRange},
		{wrong(), 0, 0, api.ErrClash},
		{wrong(), -1, 0, api.ErrClash},
	} {
		if v, e := wave.Value(x.r, x.hour); v != x.value || e != x.e {
			t.Errorf("%d: Value %d %d, want %d %d", i, v, e, x.value, x.e)
		}
	}
}

// P4.4: hours that follow in between, and ends that are not possible.
func TestFollow(t *testing.T) {
	for i, x := range []struct {
		r        wave.Record
		from, to int
		want     []wave.Reading
		e        api.Errno
	}{
		{right(), 3, 6, readings(3, 24, 4, 14, 5, 25, 6, 15), api.OK},
		{right(), 100000, 100000, readings(100000, 14), api.OK},
		{record(3, 2, 6, 15), 0, 13, readings(0, 15, 6, 15, 12, 15), api.OK},
		{record(3, 2, 6, 15), 12, 18, readings(12, 15, 18, 15), api.OK},
		{record(3, 2, 6, 15), 13, 17, nil, api.OK},
		{record(3, 2), 0, 1000, nil, api.OK},
		{right(), 5, 4, nil, api.ErrRange},
		{right(), -1, 4, nil, api.ErrRange},
		{right(), 0, 1001, nil, api.ErrRange},
		{right(), 99000, 100001, nil, api.ErrRange},
		{right(), 99999, 100001, nil, api.ErrRange},
		{right(), 100001, 100001, nil, api.ErrRange},
		{right(), math.MinInt, math.MaxInt, nil, api.ErrRange},
		{right(), 0, math.MaxInt, nil, api.ErrRange},
		{right(), math.MinInt, 0, nil, api.ErrRange},
		{wrong(), 0, 5, nil, api.ErrClash},
		{wrong(), 5, 0, nil, api.ErrClash},
	} {
		if l, e := wave.Follow(x.r, x.from, x.to); !slices.Equal(l, x.want) || e != x.e {
			t.Errorf("%d: Follow %v %d, want %v %d", i, l, e, x.want, x.e)
		}
	}
	for _, from := range list(0, 1, 99000) {
		l, e := wave.Follow(right(), from, from+1000)
		if len(l) != 1001 || e != api.OK || l[0].Hour != from || l[1000].Hour != from+1000 {
			t.Errorf("Follow of 1001 hours from %d: %d of them, %d", from, len(l), e)
		}
	}
}

// P4.5: the first error of a ring, in the order of its elements.
func TestVerify(t *testing.T) {
	long := slices.Repeat(list(0, 3, 4, 2), 15)
	for i, x := range []struct {
		r    wave.Record
		ring []int
		e    api.Errno
	}{
		{wrong(), list(0, 3, 4, 2), api.OK},
		{wrong(), list(4, 2, 0, 3), api.OK},
		{wrong(), list(3, 0, 2, 4), api.OK},
		{wrong(), list(2, 4, 3, 0), api.OK},
		{wrong(), long, api.OK},
		{record(1, 1, 4, 5, 9, 6), list(0, 1), api.OK},
		{wrong(), nil, api.ErrShape},
		{wrong(), list(0), api.ErrShape},
		{wrong(), list(99), api.ErrShape},
		{wrong(), list(0, 3, 4), api.ErrShape},
		{wrong(), slices.Concat(long, list(0)), api.ErrShape},
		{wrong(), slices.Concat(long, list(0, 0)), api.ErrShape},
		{wrong(), slices.Repeat(list(99), 62), api.ErrShape},
		{wrong(), list(5, 0), api.ErrNone},
		{wrong(), list(0, 5), api.ErrNone},
		{wrong(), list(-1, 0), api.ErrNone},
		{wrong(), list(0, -1), api.ErrNone},
		{wrong(), list(math.MinInt, math.MaxInt), api.ErrNone},
		{record(1, 1), list(0, 0), api.ErrNone},
		{wrong(), list(0, 1), api.ErrOrder},
		{wrong(), list(0, 1, 9, 9), api.ErrOrder},
		{wrong(), list(0, 3, 9, 9), api.ErrNone},
		{wrong(), list(0, 3, 4, 9), api.ErrNone},
		{wrong(), list(0, 3, 0, 3), api.ErrOrder},
		{wrong(), list(0, 3, 4, 1), api.ErrOrder},
		{wrong(), list(0, 2, 4, 3), api.ErrOrder},
		{wrong(), list(3, 4, 2, 0), api.ErrOrder},
		{wrong(), list(0, 3), api.ErrOrder},
		{wrong(), list(0, 3, 4, 4), api.ErrOrder},
		{wrong(), list(0, 0), api.ErrProof},
		{wrong(), list(0, 3, 3, 0), api.ErrProof},
		{wrong(), list(0, 3, 4, 2, 2, 4, 3, 0), api.ErrProof},
		{right(), list(0, 0), api.ErrProof},
		{record(1, 1, 4, 5, 9, 5), list(0, 1), api.ErrProof},
	} {
		if e := wave.Verify(x.r, x.ring); e != x.e {
			t.Errorf("%d: Verify %d, want %d", i, e, x.e)
		}
	}
}

// P4.5: rings of several lengths prove that records do not fit.
func TestClash(t *testing.T) {
	for i, r := range []wave.Record{
		wrong(),
		record(1, 1, 4, 5, 9, 6),
		record(3, 3, 1, 5, 4, 5, 7, 6),
		record(2, 3, 0, 1, 1, 2, 2, 3, 3, 4, 4, 5, 5, 7),
		record(6, 4, 0, 0, 4, 0, 6, 0, 10, 0, 12, 1),
		record(2, 2, 0, -1000000, 100000, 1000000),
	} {
		ring, e := wave.Clash(r)
		closed, clashes := trueRing(r, ring)
		if e != api.OK || !closed || !clashes || wave.Verify(r, ring) != api.OK {
			t.Errorf("%d: Clash %v %d", i, ring, e)
		}
	}
}

// P4.6: suspects of records that fit and of others, of which some have none.
func TestSuspects(t *testing.T) {
	for i, x := range []struct {
		r    wave.Record
		want []int
	}{
		{wrong(), list(0, 2, 3, 4)},
		{right(), list(0, 1, 2, 3)},
		{record(1, 1, 4, 5), list(0)},
		{record(3, 2), nil},
		{record(1, 1, 4, 5, 9, 6), list(0, 1)},
		{record(1, 1, 4, 5, 9, 6, 12, 5), list(1)},
		{record(1, 1, 4, 5, 9, 6, 12, 7), nil},
		{record(1, 1, 4, 5, 9, 5, 12, 6, 13, 6), nil},
		{record(2, 2, 0, 1, 1, 9, 2, 2, 4, 1), list(2)},
		{record(2, 2, 0, 1, 1, 9, 2, 2, 3, 8), nil},
	} {
		if l, e := wave.Suspects(x.r); !slices.Equal(l, x.want) || e != api.OK {
			t.Errorf("%d: Suspects %v %d, want %v", i, l, e, x.want)
		}
	}
}

// P4.7: how many hours in a row are enough, and periods that are none.
func TestEnough(t *testing.T) {
	for _, x := range []struct {
		sun, moon, want int
		e               api.Errno
	}{
		{3, 2, 4, api.OK},
		{4, 6, 8, api.OK},
		{5, 5, 5, api.OK},
		{1, 1, 1, api.OK},
		{1, 30, 30, api.OK},
		{30, 1, 30, api.OK},
		{30, 29, 58, api.OK},
		{30, 30, 30, api.OK},
		{12, 18, 24, api.OK},
		{0, 5, 0, api.ErrRange},
		{5, 0, 0, api.ErrRange},
		{31, 1, 0, api.ErrRange},
		{1, 31, 0, api.ErrRange},
		{-4, 6, 0, api.ErrRange},
		{math.MaxInt, math.MinInt, 0, api.ErrRange},
		{math.MinInt, math.MinInt, 0, api.ErrRange},
	} {
		if n, e := wave.Enough(x.sun, x.moon); n != x.want || e != x.e {
			t.Errorf("Enough(%d, %d) = %d %d, want %d %d", x.sun, x.moon, n, e, x.want, x.e)
		}
	}
}
