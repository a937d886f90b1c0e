package wave_test

import (
	"math"
	"reflect"
	"slices"
	"testing"

	"agonic/api"
	"agonic/wave"
)

// all calls all functions, and returns what they return.
func all(r wave.Record, hour, from, to int, ring []int) []any {
	a, b, c := wave.Waves(r)
	d, e := wave.Parts(r)
	f, g := wave.Value(r, hour)
	h, i := wave.Follow(r, from, to)
	j, k := wave.Clash(r)
	l, m := wave.Suspects(r)
	n, o := wave.Enough(r.Sun, r.Moon)
	return []any{wave.Check(r), wave.Fits(r), a, b, c, d, e, f, g, h, i, j, k, wave.Verify(r, ring), l, m, n, o}
}

// R3: a nil list and a list without elements mean the same.
func TestNilLists(t *testing.T) {
	a, b := record(3, 2), record(3, 2)
	b.Readings = []wave.Reading{}
	if x, y := all(a, 1, 0, 9, nil), all(b, 1, 0, 9, []int{}); !reflect.DeepEqual(x, y) {
		t.Errorf("nil lists: %v, empty ones: %v", x, y)
	}
}

// overwrite changes all lists of results.
func overwrite(results []any) {
	for _, r := range results {
		switch l := r.(type) {
		case []int:
			for i := range l {
				l[i] = 77777
			}
		case []wave.Reading:
			for i := range l {
				l[i] = wave.Reading{Hour: 77777, Value: 77777}
			}
		}
	}
}

// R4: arguments stay as they are, and results share no memory with them, with each other, or with later results.
func TestMemory(t *testing.T) {
	d := dice{12}
	for range 500 {
		r := d.mixed()
		ring := d.walk(r, 4)
		kept, keptRing := clone(r), slices.Clone(ring)
		first := all(r, 5, 3, 33, ring)
		second := all(r, 5, 3, 33, ring)
		overwrite(second)
		if !reflect.DeepEqual(r, kept) || !slices.Equal(ring, keptRing) {
			t.Fatalf("arguments changed: %v %v", kept, keptRing)
		}
		if !reflect.DeepEqual(first, all(r, 5, 3, 33, ring)) {
			t.Fatalf("results share memory with later ones: %v %v", r, ring)
		}
	}
}

// R4: a list's room behind its end stays as it is.
func TestRoomBehind(t *testing.T) {
	behind := wrong()
	r := behind
	r.Readings = behind.Readings[:3]
	all(r, 1, 0, 9, list(0, 1))
	if !reflect.DeepEqual(behind, wrong()) {
		t.Errorf("readings changed: %v", behind)
	}
}

// P1, R5: all functions terminate without a panic, for numbers and sizes of all kinds, and equal arguments yield equal results.
func TestAnyArguments(t *testing.T) {
	d := dice{13}
	number := func(a int) int {
		if d.roll(0, 60) == 0 {
			return list(math.MinInt, math.MaxInt, -1, 0, 31, 100001, -1000001, 1<<50)[d.roll(0, 7)]
		}
		return a
	}
	count := map[api.Errno]int{}
	for range 6000 {
		r := d.mixed()
		r.Sun, r.Moon = number(r.Sun), number(r.Moon)
		for i, x := range r.Readings {
			if d.roll(0, 20) == 0 {
				r.Readings[i] = wave.Reading{Hour: number(x.Hour - d.roll(0, 3)), Value: number(x.Value)}
			}
		}
		if d.roll(0, 20) == 0 {
			r.Readings = append(r.Readings, r.Readings...)
		}
		var ring []int
		for range d.roll(0, 4) {
			ring = append(ring, number(d.roll(0, 4)))
		}
		hour, from, to := number(5), number(20), number(30)
		first := all(r, hour, from, to, ring)
		all(right(), 1, 0, 9, nil)
		if !reflect.DeepEqual(first, all(r, hour, from, to, ring)) {
			t.Fatalf("different results: %v %d %d %d %v", r, hour, from, to, ring)
		}
		e, _ := first[1].(api.Errno)
		count[e]++
	}
	for _, e := range []api.Errno{api.OK, api.ErrMany, api.ErrRange, api.ErrOrder, api.ErrClash} {
		if count[e] < 30 {
			t.Errorf("too few of one kind: %v", count)
		}
	}
}
