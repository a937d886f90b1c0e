package baseline_test

import (
	"math"
	"reflect"
	"slices"
	"testing"

	"agonic/api"
	"agonic/baseline"
)

// all calls all functions, and returns what they return.
func all(s baseline.Sheet, steps []int, hour int, l []baseline.Pair) []any {
	a, b := baseline.Fewest(s)
	c, d := baseline.Pairs(s)
	e, f := baseline.Value(s, steps, hour)
	g, h := baseline.Highest(s, steps)
	i, j := baseline.Suspects(s, steps)
	return []any{baseline.Check(s), baseline.Explains(s, steps), a, b, c, d, baseline.Verify(s, l), e, f, g, h, i, j}
}

// R3: a nil list and a list without elements mean the same.
func TestNilLists(t *testing.T) {
	for _, absolutes := range [][]baseline.Absolute{nil, {}} {
		for i, e := range failures(t, baseline.Sheet{Absolutes: absolutes}, nil, 0, nil) {
			if e != api.ErrEmpty {
				t.Errorf("function %d without absolutes: %d", i, e)
			}
		}
	}
	s := sheet(1, 1, 0, 5, 6, 4, 7, 8)
	if a, b := all(s, nil, 3, nil), all(s, []int{}, 3, []baseline.Pair{}); !reflect.DeepEqual(a, b) {
		t.Errorf("nil lists: %v, empty ones: %v", a, b)
	}
}

// overwrite changes all lists of results.
func overwrite(results []any) {
	for _, r := range results {
		switch l := r.(type) {
		case []int:
			for i := range l {
				l[i] = 77777
			}
		case []baseline.Pair:
			for i := range l {
				l[i] = baseline.Pair{First: 77777, Second: 77777}
			}
		}
	}
}

// R4: arguments stay as they are, and results share no memory with them, or with later results.
func TestMemory(t *testing.T) {
	d := dice{10}
	for range 1000 {
		s := d.drifting(d.roll(1, 20))
		steps, _ := baseline.Fewest(s)
		if d.roll(0, 2) == 0 {
			steps = d.steps(60)
		}
		proof, _ := baseline.Pairs(s)
		hour := d.roll(0, 300)
		kept, keptSteps, keptProof := clone(s), slices.Clone(steps), slices.Clone(proof)
		first := all(s, steps, hour, proof)
		overwrite(all(s, steps, hour, proof))
		if !reflect.DeepEqual(s, kept) || !slices.Equal(steps, keptSteps) || !slices.Equal(proof, keptProof) {
			t.Fatalf("arguments changed: %v %v %v", kept, keptSteps, keptProof)
		}
		if !reflect.DeepEqual(first, all(s, steps, hour, proof)) {
			t.Fatalf("results share memory with later ones: %v %v", s, steps)
		}
	}
}

// P1, R5: all functions terminate without a panic, for numbers and sizes of all kinds, and equal arguments yield equal results.
func TestAnyArguments(t *testing.T) {
	d := dice{11}
	number := func(a, b int) int {
		if d.roll(0, 60) == 0 {
			return list(math.MinInt, math.MaxInt, -1, 10000, 10001, 1000001, -1000001, 1<<40)[d.roll(0, 7)]
		}
		return d.roll(a, b)
	}
	valid := 0
	for range 20000 {
		s := sheet(number(0, 5), number(0, 5))
		hour := 0
		for range d.roll(0, 8) + d.roll(0, 20)/20*d.roll(0, 60) {
			lo := number(-20, 20)
			s.Absolutes = append(s.Absolutes, baseline.Absolute{Hour: hour, Value: span(lo, lo+number(0, 20))})
			hour = number(hour+1, hour+4)
		}
		var steps []int
		for range d.roll(0, 4) + d.roll(0, 20)/20*d.roll(0, 60) {
			steps = append(steps, number(4*len(steps), 4*len(steps)+3))
		}
		var l []baseline.Pair
		for range d.roll(0, 4) {
			l = append(l, baseline.Pair{First: number(0, 5), Second: number(1, 8)})
		}
		at := number(0, 40)
		first := all(s, steps, at, l)
		all(example(), list(2), 1, nil)
		if !reflect.DeepEqual(first, all(s, steps, at, l)) {
			t.Fatalf("different results: %v %v %d %v", s, steps, at, l)
		}
		if first[0] == api.OK {
			valid++
		}
	}
	if valid < 5000 || valid > 19000 {
		t.Errorf("%d valid sheets", valid)
	}
}
