package baseline_test

import (
	"math"
	"slices"
	"testing"

	"agonic/api"
	"agonic/baseline"
)

// Terms, Limits: the chapter's limits.
func TestLimits(t *testing.T) {
	got := list(baseline.MaxDrift, baseline.MaxAbsolutes, baseline.MaxHour, baseline.MaxValue, baseline.MaxSteps)
	if want := list(1000, 40, 10000, 1000000, 40); !slices.Equal(got, want) {
		t.Errorf("limits %v, want %v", got, want)
	}
}

// crowd returns a sheet of so many absolutes, an hour apart.
func crowd(count int) baseline.Sheet {
	s := sheet(0, 0)
	for h := range count {
		s.Absolutes = append(s.Absolutes, baseline.Absolute{Hour: h, Value: span(h, h)})
	}
	return s
}

type badSheet struct {
	s baseline.Sheet
	e api.Errno
}

// badSheets are sheets with errors, in the order in which they are examined.
func badSheets() []badSheet {
	return []badSheet{
		{sheet(-1, 0), api.ErrRange},
		{sheet(0, -1), api.ErrRange},
		{sheet(1001, 0, 0, 0, 0), api.ErrRange},
		{sheet(0, 1001, 0, 0, 0), api.ErrRange},
		{sheet(math.MinInt, 0, 0, 0, 0), api.ErrRange},
		{sheet(0, math.MaxInt, 0, 0, 0), api.ErrRange},
		{baseline.Sheet{Fall: -1, Absolutes: make([]baseline.Absolute, 41)}, api.ErrRange},
		{sheet(0, 0), api.ErrEmpty},
		{sheet(1000, 1000), api.ErrEmpty},
		{crowd(41), api.ErrMany},
		{baseline.Sheet{Absolutes: make([]baseline.Absolute, 41)}, api.ErrMany},
		{baseline.Sheet{Absolutes: slices.Repeat([]baseline.Absolute{{Hour: -1}}, 99)}, api.ErrMany},
		{sheet(0, 0, -1, 0, 0), api.ErrRange},
		{sheet(0, 0, 10001, 0, 0), api.ErrRange},
		{sheet(0, 0, math.MinInt, 0, 0), api.ErrRange},
		{sheet(0, 0, math.MaxInt, 0, 0), api.ErrRange},
		{sheet(0, 0, 0, 1, 0), api.ErrRange},
		{sheet(0, 0, 0, -1000001, 0), api.ErrRange},
		{sheet(0, 0, 0, 0, 1000001), api.ErrRange},
		{sheet(0, 0, 0, math.MinInt, math.MaxInt), api.ErrRange},
		{sheet(0, 0, 0, 0, 0, 1, 5, 4, 0, 0, 0), api.ErrRange},
		{sheet(0, 0, 3, 0, 0, 2, 5, 4), api.ErrRange},
		{sheet(0, 0, 3, 0, 0, -1, 0, 0), api.ErrRange},
		{sheet(0, 0, 3, 0, 0, 3, 0, 0), api.ErrOrder},
		{sheet(0, 0, 3, 0, 0, 2, 0, 0), api.ErrOrder},
		{sheet(0, 0, 3, 0, 0, 4, 0, 0, 3, 0, 0, 9, 2, 1), api.ErrOrder},
		{baseline.Sheet{Absolutes: make([]baseline.Absolute, 40)}, api.ErrOrder},
	}
}

// P2.1: Check, and its error in every other function (P2.2 to P2.7), before all other errors (R1), with zero values (R2).
func TestCheck(t *testing.T) {
	for _, s := range []baseline.Sheet{example(), crowd(40), sheet(0, 0, 0, 0, 0), sheet(1000, 1000, 10000, 0, 0), sheet(0, 0, 0, -1000000, 1000000, 10000, 1000000, 1000000), sheet(0, 0, 5, -1000000, -1000000)} {
		if e := baseline.Check(s); e != api.OK {
			t.Errorf("Check(%v) = %d", s, e)
		}
	}
	for _, x := range badSheets() {
		if e := baseline.Check(x.s); e != x.e {
			t.Errorf("Check(%v) = %d, want %d", x.s, e, x.e)
		}
		for _, steps := range [][]int{nil, make([]int, 41), {-1}, {2, 2}} {
			for i, e := range failures(t, x.s, steps, -1, pairs(-1, 0)) {
				if e != x.e {
					t.Errorf("function %d of %v, %v: %d, want %d", i, x.s, steps, e, x.e)
				}
			}
		}
	}
}

// failures returns the errors of the other functions, those that get steps first, and
// expects zero values with each of them.
func failures(t *testing.T, s baseline.Sheet, steps []int, hour int, proof []baseline.Pair) []api.Errno {
	t.Helper()
	v, a := baseline.Value(s, steps, hour)
	highest, b := baseline.Highest(s, steps)
	suspects, c := baseline.Suspects(s, steps)
	fewest, d := baseline.Fewest(s)
	proofs, e := baseline.Pairs(s)
	for i, wrong := range []bool{v != api.Span{} && a != api.OK, len(highest) > 0 && b != api.OK, len(suspects) > 0 && c != api.OK, len(fewest) > 0 && d != api.OK, len(proofs) > 0 && e != api.OK} {
		if wrong {
			t.Errorf("%v, %v, %d: result %d is not zero", s, steps, hour, i)
		}
	}
	return []api.Errno{baseline.Explains(s, steps), a, b, c, d, e, baseline.Verify(s, proof)}
}

// P2.2: Explains.
func TestExplains(t *testing.T) {
	for _, x := range []struct {
		s     baseline.Sheet
		steps []int
		want  api.Errno
	}{
		{example(), nil, api.ErrClash},
		{example(), list(0), api.OK},
		{example(), list(1), api.OK},
		{example(), list(2), api.OK},
		{example(), list(3), api.ErrClash},
		{example(), list(3, 4, 5, 8, 9, 10000), api.ErrClash},
		{example(), list(0, 1, 2, 3, 10000), api.OK},
		{example(), upTo(40), api.OK},
		// only the first and the last absolute differ too much
		{sheet(1, 1, 0, 0, 0, 1, 0, 9, 2, 3, 3), nil, api.ErrClash},
		{sheet(1, 1, 0, 0, 0, 1, 0, 9, 2, 2, 2), nil, api.OK},
		{sheet(1, 1, 0, 0, 0, 1, 0, 9, 2, -2, -2), nil, api.ErrClash},
		// drift as fast as possible, and faster, over all hours
		{sheet(100, 0, 0, -500000, -500000, 10000, 500000, 500000), nil, api.OK},
		{sheet(100, 0, 0, -500000, -500000, 10000, 500001, 500001), nil, api.ErrClash},
		{sheet(0, 200, 0, 1000000, 1000000, 10000, -1000000, -1000000), nil, api.OK},
		{sheet(0, 199, 0, 1000000, 1000000, 10000, -1000000, -1000000), nil, api.ErrClash},
		{sheet(0, 0, 0, 5, 5, 10000, 6, 6), list(9999), api.OK},
		{sheet(0, 0, 0, 5, 5, 10000, 6, 6), list(10000), api.ErrClash},
	} {
		if e := baseline.Explains(x.s, x.steps); e != x.want {
			t.Errorf("Explains(%v, %v) = %d, want %d", x.s, x.steps, e, x.want)
		}
	}
}

// P2.2, P2.5, P2.6, P2.7: errors of steps in all functions that get them, and zero values (R2).
func TestErrorsOfSteps(t *testing.T) {
	for _, x := range []struct {
		steps []int
		want  api.Errno
	}{
		{make([]int, 41), api.ErrMany},
		{upTo(41), api.ErrMany},
		{slices.Repeat(list(-1), 50), api.ErrMany},
		{make([]int, 40), api.ErrOrder},
		{list(-1), api.ErrRange},
		{list(10001), api.ErrRange},
		{list(math.MinInt), api.ErrRange},
		{list(math.MaxInt), api.ErrRange},
		{list(2, 10001, 1), api.ErrRange},
		{list(2, -1), api.ErrRange},
		{list(2, 2), api.ErrOrder},
		{list(2, 1), api.ErrOrder},
		{list(2, 3, 2, -1), api.ErrOrder},
	} {
		for i, e := range failures(t, example(), x.steps, -1, nil)[:4] {
			if e != x.want {
				t.Errorf("function %d, %v: %d, want %d", i, x.steps, e, x.want)
			}
		}
	}
}

// P2.3, P2.4: the fewest steps, the greatest list of them, and pairs that prove their number.
func TestFewestAndPairs(t *testing.T) {
	for _, x := range []struct {
		s    baseline.Sheet
		want []int
	}{
		{example(), list(2)},
		{sheet(0, 0, 4, 7, 7), nil},
		{sheet(0, 0, 10000, 7, 7), nil},
		{sheet(0, 0, 0, 5, 5, 9, 5, 5), nil},
		{sheet(0, 0, 0, 5, 5, 9, 6, 6), list(8)},
		{sheet(0, 0, 0, 5, 5, 9, 4, 4), list(8)},
		{sheet(1, 0, 0, 5, 5, 9, 14, 14), nil},
		{sheet(1, 0, 0, 5, 5, 9, 15, 15), list(8)},
		{sheet(0, 1, 0, 5, 5, 9, -4, -4), nil},
		{sheet(0, 1, 0, 5, 5, 9, -5, -5), list(8)},
		{sheet(0, 0, 0, 1, 1, 1, 2, 2, 2, 3, 3), list(0, 1)},
		{sheet(1, 1, 0, 0, 0, 1, 0, 9, 2, 3, 3), list(1)},
		{sheet(0, 0, 0, 1, 2, 1, 2, 3, 2, 3, 4, 3, 4, 5, 4, 5, 6), list(1, 3)},
		{sheet(0, 0, 0, 1, 9, 3, 1, 4, 6, 3, 5, 9, 5, 9, 10, 1, 2), list(8, 9)},
		{crowd(40), upTo(39)},
		{sheet(1000, 1000, 0, -1000000, -1000000, 1999, 1000000, 1000000), list(1998)},
		{sheet(1000, 1000, 0, -1000000, -1000000, 2000, 1000000, 1000000), nil},
	} {
		steps, e := baseline.Fewest(x.s)
		if !slices.Equal(steps, x.want) || e != api.OK || baseline.Explains(x.s, steps) != api.OK {
			t.Errorf("Fewest(%v) = %v %d, want %v", x.s, steps, e, x.want)
		}
		proof, e := baseline.Pairs(x.s)
		if len(proof) != len(x.want) || e != api.OK || !apart(proof, len(x.s.Absolutes)) || baseline.Verify(x.s, proof) != api.OK {
			t.Errorf("Pairs(%v) = %v %d", x.s, proof, e)
		}
	}
	if proof, _ := baseline.Pairs(example()); !slices.Equal(proof, pairs(0, 1)) {
		t.Errorf("Pairs of the example: %v", proof)
	}
}

// P2.4: Verify.
func TestVerify(t *testing.T) {
	three := sheet(0, 0, 0, 1, 1, 1, 2, 2, 2, 3, 3)
	for _, x := range []struct {
		s    baseline.Sheet
		l    []baseline.Pair
		want api.Errno
	}{
		{example(), nil, api.OK},
		{example(), pairs(0, 1), api.OK},
		{example(), pairs(1, 2), api.ErrProof},
		{example(), pairs(0, 2), api.ErrProof},
		{example(), pairs(0, 1, 1, 3), api.ErrProof},
		{example(), pairs(0, 1, 0, 1), api.ErrOrder},
		{example(), pairs(0, 2, 1, 2), api.ErrProof},
		{three, pairs(0, 1), api.OK},
		{three, pairs(1, 2), api.OK},
		{three, pairs(0, 2), api.OK},
		{three, pairs(0, 1, 1, 2), api.OK},
		{three, pairs(0, 2, 1, 2), api.ErrOrder},
		{three, pairs(0, 1, 0, 2), api.ErrOrder},
		{three, pairs(1, 2, 0, 1), api.ErrOrder},
		{three, pairs(1, 1), api.ErrOrder},
		{three, pairs(2, 1), api.ErrOrder},
		{three, pairs(0, 3), api.ErrNone},
		{three, pairs(3, 4), api.ErrNone},
		{three, pairs(3, 0), api.ErrNone},
		{three, pairs(-1, 0), api.ErrNone},
		{three, pairs(0, -1), api.ErrNone},
		{three, pairs(math.MinInt, math.MaxInt), api.ErrNone},
		{three, pairs(0, 1, 0, 3), api.ErrNone},
		{three, pairs(1, 0, 0, 3), api.ErrOrder},
		{three, slices.Repeat(pairs(0, 1), 100), api.ErrOrder},
		{sheet(0, 0, 0, 1, 1), pairs(0, 0), api.ErrOrder},
		{sheet(0, 0, 0, 1, 1), pairs(0, 1), api.ErrNone},
	} {
		if e := baseline.Verify(x.s, x.l); e != x.want {
			t.Errorf("Verify(%v, %v) = %d, want %d", x.s, x.l, e, x.want)
		}
	}
}

// P2.5: Value, with its errors in their order (R1) and zero values (R2).
func TestValue(t *testing.T) {
	alone := sheet(3, 0, 10, 5, 6)
	for _, x := range []struct {
		s     baseline.Sheet
		steps []int
		hour  int
		want  api.Span
		e     api.Errno
	}{
		{example(), list(2), 0, span(10, 12), api.OK},
		{example(), list(2), 1, span(9, 14), api.OK},
		{example(), list(2), 2, span(8, 16), api.OK},
		{example(), list(2), 3, span(20, 20), api.OK},
		{example(), list(2), 4, span(19, 19), api.OK},
		{example(), list(2), 5, span(18, 18), api.OK},
		{example(), list(2), 9, span(15, 26), api.OK},
		{example(), list(2), 12, span(12, 32), api.OK},
		{example(), list(0), 1, span(16, 22), api.OK},
		{example(), list(2, 3), 3, span(20, 21), api.OK},
		{example(), list(2, 9), 9, span(15, 26), api.OK},
		{example(), list(2, 9), 10, api.Span{}, api.ErrLost},
		{example(), list(1, 2), 2, api.Span{}, api.ErrLost},
		{example(), list(2, 9, 10000), 10000, api.Span{}, api.ErrLost},
		{example(), list(2, 9, 9999), 10000, api.Span{}, api.ErrLost},
		{example(), list(2, 10000), 10000, span(-9976, 20008), api.OK},
		{alone, nil, 0, span(-25, 6), api.OK},
		{alone, nil, 10, span(5, 6), api.OK},
		{alone, nil, 10000, span(5, 29976), api.OK},
		{alone, list(9), 9, api.Span{}, api.ErrLost},
		{alone, list(9), 10, span(5, 6), api.OK},
		{alone, list(10), 11, api.Span{}, api.ErrLost},
		{sheet(1000, 1000, 0, -1000000, 1000000), nil, 10000, span(-11000000, 11000000), api.OK},
		{sheet(1000, 1000, 10000, -1000000, 1000000), nil, 0, span(-11000000, 11000000), api.OK},
		{example(), nil, 0, api.Span{}, api.ErrClash},
		{example(), nil, 10001, api.Span{}, api.ErrClash},
		{example(), list(2, 2), -1, api.Span{}, api.ErrOrder},
		{example(), list(2), -1, api.Span{}, api.ErrRange},
		{example(), list(2), 10001, api.Span{}, api.ErrRange},
		{example(), list(2, 10000), 10001, api.Span{}, api.ErrRange},
		{example(), list(2), math.MinInt, api.Span{}, api.ErrRange},
		{example(), list(2), math.MaxInt, api.Span{}, api.ErrRange},
	} {
		if v, e := baseline.Value(x.s, x.steps, x.hour); v != x.want || e != x.e {
			t.Errorf("Value(%v, %v, %d) = %v %d, want %v %d", x.s, x.steps, x.hour, v, e, x.want, x.e)
		}
	}
}

// P2.6: Highest.
func TestHighest(t *testing.T) {
	for _, x := range []struct {
		s     baseline.Sheet
		steps []int
		want  []int
		e     api.Errno
	}{
		{example(), list(2), list(12, 20, 18, 26), api.OK},
		{example(), list(2, 3), list(12, 21, 18, 26), api.OK},
		{example(), list(0, 3, 5), list(12, 21, 18, 30), api.OK},
		{sheet(0, 0, 0, 1, 9, 1, 3, 5, 2, 2, 7), nil, list(5, 5, 5), api.OK},
		{sheet(0, 0, 4, 7, 8), nil, list(8), api.OK},
		{sheet(0, 0, 10000, 7, 8), list(9999, 10000), list(8), api.OK},
		{example(), nil, nil, api.ErrClash},
		{example(), list(3), nil, api.ErrClash},
	} {
		if l, e := baseline.Highest(x.s, x.steps); !slices.Equal(l, x.want) || e != x.e {
			t.Errorf("Highest(%v, %v) = %v %d, want %v %d", x.s, x.steps, l, e, x.want, x.e)
		}
	}
}

// P2.7: Suspects; steps that do not explain a sheet are no error.
func TestSuspects(t *testing.T) {
	three := sheet(0, 0, 0, 1, 1, 1, 2, 2, 2, 3, 3)
	for _, x := range []struct {
		s     baseline.Sheet
		steps []int
		want  []int
	}{
		{example(), nil, list(0, 1)},
		{example(), list(2), list(0, 1, 2, 3)},
		{example(), list(4), list(0, 1)},
		{three, nil, nil},
		{three, list(0), list(1, 2)},
		{three, list(0, 1), list(0, 1, 2)},
		{sheet(0, 0, 0, 1, 1, 1, 2, 2, 2, 1, 1), nil, list(1)},
		{sheet(0, 0, 4, 7, 7), nil, nil},
		{sheet(0, 0, 4, 7, 7), list(3, 4), nil},
		{sheet(0, 0, 4, 7, 7, 5, 8, 8), nil, list(0, 1)},
		{sheet(0, 0, 4, 7, 7, 5, 7, 7), nil, list(0, 1)},
	} {
		if l, e := baseline.Suspects(x.s, x.steps); !slices.Equal(l, x.want) || e != api.OK {
			t.Errorf("Suspects(%v, %v) = %v %d, want %v", x.s, x.steps, l, e, x.want)
		}
	}
}
