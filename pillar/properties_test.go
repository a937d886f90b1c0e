package pillar_test

import (
	"slices"
	"testing"

	"agonic/api"
	"agonic/pillar"
)

// checkEither checks that a plan has either a combination or hidden numbers (P1.6).
func checkEither(t *testing.T, p pillar.Plan) (follows bool) {
	t.Helper()
	w, e := pillar.Weigh(p)
	hidden, f := pillar.Hidden(p)
	switch {
	case e == api.OK && f == api.ErrNone && isCombination(p, w) && len(hidden) == 0:
		_, _, e = pillar.Bound(p, make([]api.Span, len(p.Rows)), w)
		if e != api.OK {
			t.Errorf("%v: %v is not accepted: %d", p, w, e)
		}
		return true
	case e == api.ErrLost && f == api.OK && isHidden(p, hidden) && w.Under == 0 && len(w.Of) == 0:
		if e := pillar.Hides(p, hidden); e != api.OK {
			t.Errorf("%v: %v are not accepted: %d", p, hidden, e)
		}
		return false
	}
	t.Fatalf("%v: Weigh %v %d, Hidden %v %d", p, w, e, hidden, f)
	return false
}

// P1.6, P1.2, G4: for all plans of one error and two rows, and for many others.
func TestEitherFollowsOrHidden(t *testing.T) {
	side := 2*pillar.MaxFactor + 1
	for n := range side * side * side * side {
		a, b, c, d := n%side-3, n/side%side-3, n/side/side%side-3, n/side/side/side-3
		follows := checkEither(t, plan(1, []int{a, b}, []int{c, d}))
		if want := a*d != b*c || a != 0 && b == 0 || c != 0 && d == 0; follows != want {
			t.Fatalf("(%d, %d), (%d, %d) follows: %v", a, b, c, d, follows)
		}
	}
	d := dice{1}
	count := [2]int{}
	for range 20000 {
		if checkEither(t, d.plan(pillar.MaxRows)) {
			count[1]++
		} else {
			count[0]++
		}
	}
	if count[0] < 1000 || count[1] < 1000 {
		t.Errorf("too few of one kind: %v", count)
	}
}

// P1.4, P1.5, P1.6, P1.8, G3, G4: Value against an elimination of the errors that
// shares nothing with the package; either a truth or a clash.
func TestValueIsSharp(t *testing.T) {
	d := dice{2}
	count := map[api.Errno]int{}
	for range 4000 {
		p := d.plan(pillar.MaxRows)
		readings := d.mixed(p)
		lo, hi, want := expect(p, readings)
		count[want]++
		checkValue(t, p, readings, lo, hi, want)
		clash, e := pillar.Clash(p, readings)
		switch {
		case want != api.ErrClash && (e != api.ErrNone || len(clash) != 0):
			t.Fatalf("Clash(%v, %v) = %v %d, but they are possible", p, readings, clash, e)
		case want == api.ErrClash && (e != api.OK || !isClash(p, readings, clash) || pillar.Verify(p, readings, clash) != api.OK):
			t.Fatalf("Clash(%v, %v) = %v %d", p, readings, clash, e)
		}
	}
	for _, e := range []api.Errno{api.OK, api.ErrClash, api.ErrLost} {
		if count[e] < 200 {
			t.Errorf("too few with %d: %v", e, count)
		}
	}
}

// P1.4, P1.5, R5: the same with the largest readings and factors.
func TestValueOfLargeReadings(t *testing.T) {
	d := dice{3}
	for range 300 {
		p := plan(d.roll(0, 3))
		for range d.roll(1, pillar.MaxRows) {
			p.Rows = append(p.Rows, d.numbers(p.Errors+1, pillar.MaxFactor))
		}
		readings := d.anyReadings(len(p.Rows), pillar.MaxReading, 2*pillar.MaxReading)
		lo, hi, want := expect(p, readings)
		checkValue(t, p, readings, lo, hi, want)
		if clash, e := pillar.Clash(p, readings); e == api.OK && !isClash(p, readings, clash) {
			t.Fatalf("Clash(%v, %v) = %v", p, readings, clash)
		}
	}
}

// combinationsOf returns combinations of parts of a plan, and sums of them.
func combinationsOf(d *dice, p pillar.Plan) []pillar.Weights {
	var out []pillar.Weights
	for set := 1; set < 1<<len(p.Rows); set++ {
		part, rows := plan(p.Errors), []int{}
		for i, row := range p.Rows {
			if set>>i&1 == 1 {
				part.Rows, rows = append(part.Rows, row), append(rows, i)
			}
		}
		w, e := pillar.Weigh(part)
		if e != api.OK {
			continue
		}
		whole := pillar.Weights{Under: w.Under, Of: make([]int, len(p.Rows))}
		for i, row := range rows {
			whole.Of[row] = w.Of[i]
		}
		out = append(out, whole)
	}
	for range 2 * len(out) {
		sum := pillar.Weights{Of: make([]int, len(p.Rows))}
		for range 3 {
			w, k := out[d.roll(0, len(out)-1)], d.roll(-3, 4)
			sum.Under += k * w.Under
			for i := range sum.Of {
				sum.Of[i] += k * w.Of[i]
			}
		}
		if sum.Under >= 1 && sum.Under <= pillar.MaxWeight && small(sum.Of) {
			out = append(out, sum)
		}
	}
	return out
}

// P1.7, P1.3, G1: a truth lies within Value and within every Bound.
// P1.8, G4: no Bound excludes an end of Value.
func TestTruthIsWithinEveryBound(t *testing.T) {
	d := dice{4}
	for range 600 {
		p, den := d.plan(pillar.MaxRows), d.roll(1, 6)
		truth := d.numbers(p.Errors+1, 60)
		readings := d.around(p, truth, den, d.roll(0, 5))
		lo, hi, e := pillar.Value(p, readings)
		if e == api.ErrLost {
			continue
		}
		value := reduced(truth[0], den)
		if e != api.OK || compare(lo, value) > 0 || compare(value, hi) > 0 {
			t.Fatalf("Value(%v, %v) = %v %v %d, but %v is a truth", p, readings, lo, hi, e, value)
		}
		for _, w := range combinationsOf(&d, p) {
			a, b, e := pillar.Bound(p, readings, w)
			low, high := reachOf(w.Of, readings)
			if e != api.OK || a != reduced(low, w.Under) || b != reduced(high, w.Under) {
				t.Fatalf("Bound(%v, %v, %v) = %v %v %d", p, readings, w, a, b, e)
			}
			if compare(a, lo) > 0 || compare(hi, b) > 0 {
				t.Fatalf("Bound(%v, %v, %v) = %v %v: excludes %v or %v", p, readings, w, a, b, lo, hi)
			}
		}
	}
}

// P1.8, G3: with all numbers multiplied by the denominator of an end, a further row
// can read that end, and nothing beyond it.
func TestEndsAreAttained(t *testing.T) {
	d := dice{5}
	for range 1500 {
		p := d.plan(pillar.MaxRows - 1)
		readings := d.mixed(p)
		lo, hi, e := pillar.Value(p, readings)
		if e != api.OK {
			continue
		}
		for _, x := range []struct {
			end    api.Ratio
			beyond int
		}{{lo, -1}, {hi, 1}} {
			q, exact := clonePlan(p), slices.Clone(readings)
			for i := range exact {
				exact[i].Lo, exact[i].Hi = exact[i].Lo*x.end.Den, exact[i].Hi*x.end.Den
			}
			q.Rows = append(q.Rows, append([]int{1}, make([]int, p.Errors)...))
			exact = append(exact, api.Span{Lo: x.end.Num, Hi: x.end.Num})
			if clash, e := pillar.Clash(q, exact); e != api.ErrNone {
				t.Fatalf("%v, %v: %v is not attained: %v %d", p, readings, x.end, clash, e)
			}
			exact[len(p.Rows)] = api.Span{Lo: x.end.Num + x.beyond, Hi: x.end.Num + x.beyond}
			if clash, e := pillar.Clash(q, exact); e != api.OK || pillar.Verify(q, exact, clash) != api.OK {
				t.Fatalf("%v, %v: beyond %v: %v %d", p, readings, x.end, clash, e)
			}
		}
	}
}

// P1.9: a plan that is read reversed as well.
func TestReversal(t *testing.T) {
	d := dice{6}
	for range 2000 {
		p := plan(d.roll(0, 3))
		some := false
		for range d.roll(1, 3) {
			row := d.numbers(p.Errors+1, pillar.MaxFactor)
			if d.roll(0, 4) == 0 {
				row[0] = 0
			}
			back := slices.Clone(row)
			for j := 1; j < len(back); j++ {
				back[j] = -back[j]
			}
			some = some || row[0] != 0
			p.Rows = append(p.Rows, row, back)
		}
		p = pickRows(p, d.shuffled(len(p.Rows)))
		if follows := checkEither(t, p); follows != some {
			t.Fatalf("%v follows: %v", p, follows)
		}
	}
}

func pickRows(p pillar.Plan, order []int) pillar.Plan {
	q := plan(p.Errors)
	for _, i := range order {
		q.Rows = append(q.Rows, slices.Clone(p.Rows[i]))
	}
	return q
}

// P1.10, G1: more rows and narrower readings.
func TestMoreKnowledge(t *testing.T) {
	d := dice{7}
	for range 3000 {
		p := d.plan(pillar.MaxRows - 1)
		readings := d.mixed(p)
		more, closer := clonePlan(p), slices.Clone(readings)
		more.Rows = append(more.Rows, d.numbers(p.Errors+1, pillar.MaxFactor))
		added := append(slices.Clone(readings), d.anyReadings(1, 100, 120)...)
		for i, span := range closer {
			closer[i].Lo += d.roll(0, min(2, span.Hi-span.Lo))
			closer[i].Hi -= d.roll(0, min(2, span.Hi-closer[i].Lo))
		}
		checkNotWider(t, p, readings, more, added)
		checkNotWider(t, p, readings, p, closer)
		_, e := pillar.Weigh(p)
		if _, f := pillar.Weigh(more); e == api.OK && f != api.OK {
			t.Fatalf("%v follows, %v does not", p, more)
		}
	}
}

func checkNotWider(t *testing.T, p pillar.Plan, readings []api.Span, q pillar.Plan, closer []api.Span) {
	t.Helper()
	lo, hi, e := pillar.Value(p, readings)
	a, b, f := pillar.Value(q, closer)
	if e == api.ErrClash && f != api.ErrClash || e == api.OK && f != api.OK && f != api.ErrClash {
		t.Fatalf("%v, %v: %d, but %v, %v: %d", p, readings, e, q, closer, f)
	}
	if e == api.OK && f == api.OK && (compare(a, lo) < 0 || compare(b, hi) > 0) {
		t.Fatalf("%v, %v: %v %v, but %v, %v: %v %v", p, readings, lo, hi, q, closer, a, b)
	}
}

// same checks that two plans with their readings have the same results.
func same(t *testing.T, p pillar.Plan, readings []api.Span, q pillar.Plan, others []api.Span) {
	t.Helper()
	lo, hi, e := pillar.Value(p, readings)
	checkValue(t, q, others, lo, hi, e)
	_, e = pillar.Clash(p, readings)
	if _, f := pillar.Clash(q, others); e != f {
		t.Fatalf("%v, %v: Clash %d, but %v, %v: %d", p, readings, e, q, others, f)
	}
	_, e = pillar.Weigh(p)
	if _, f := pillar.Weigh(q); e != f {
		t.Fatalf("%v: Weigh %d, but %v: %d", p, e, q, f)
	}
}

// P1.11, G5: order of rows, order of errors, sign of an error, sign of a row.
func TestOrderAndSigns(t *testing.T) {
	d := dice{8}
	for range 2000 {
		p := d.plan(pillar.MaxRows)
		readings := d.mixed(p)

		order := d.shuffled(len(p.Rows))
		var others []api.Span
		for _, i := range order {
			others = append(others, readings[i])
		}
		same(t, p, readings, pickRows(p, order), others)

		q := clonePlan(p)
		for i, j := range d.shuffled(p.Errors) {
			for row := range q.Rows {
				q.Rows[row][i+1] = p.Rows[row][j+1]
			}
		}
		same(t, p, readings, q, readings)

		if p.Errors > 0 {
			q, at := clonePlan(p), d.roll(1, p.Errors)
			for _, row := range q.Rows {
				row[at] = -row[at]
			}
			same(t, p, readings, q, readings)
		}

		q, at := clonePlan(p), d.roll(0, len(p.Rows)-1)
		for j := range q.Rows[at] {
			q.Rows[at][j] *= -1
		}
		others = slices.Clone(readings)
		others[at] = api.Span{Lo: -readings[at].Hi, Hi: -readings[at].Lo}
		same(t, p, readings, q, others)
	}
}

// P1.12: readings of a truth are added to all readings; the truth may have fractions.
func TestShifts(t *testing.T) {
	d := dice{9}
	for range 3000 {
		p := d.plan(pillar.MaxRows)
		readings := d.mixed(p)
		truth, den := d.numbers(p.Errors+1, 5000), 1
		added := make([]int, len(p.Rows))
		for i, row := range p.Rows {
			added[i] = times(row, truth)
		}
		if den = gcd(added...); den < 1 || den > 50 {
			den = 1
		}
		shifted := slices.Clone(readings)
		for i := range shifted {
			shifted[i].Lo += added[i] / den
			shifted[i].Hi += added[i] / den
		}
		lo, hi, e := pillar.Value(p, readings)
		if e == api.OK {
			lo = reduced(lo.Num*den+truth[0]*lo.Den, lo.Den*den)
			hi = reduced(hi.Num*den+truth[0]*hi.Den, hi.Den*den)
		}
		checkValue(t, p, shifted, lo, hi, e)
	}
}

// P1.2, P1.3, P1.5, G4: what is accepted as a proof is one, at every index and in every row.
func TestEveryIndexCounts(t *testing.T) {
	for j := range pillar.MaxErrors + 1 {
		unit := make([]int, pillar.MaxErrors+1)
		unit[j] = 1
		p := plan(3, []int{1, 0, 0, 0}, unit)
		if _, _, e := pillar.Bound(p, spans(0, 0, 0, 0), pillar.Weights{Under: 1, Of: []int{1, 1}}); e != api.ErrProof {
			t.Errorf("Bound with a sum that is wrong at %d: %d", j, e)
		}
		if e := pillar.Verify(p, spans(1, 1, 1, 1), []int{0, 1}); e != api.ErrProof {
			t.Errorf("Verify with a sum that is wrong at %d: %d", j, e)
		}
		hidden := []int{1, 1, 1, 1}
		if e := pillar.Hides(plan(3, []int{0, 0, 0, 0}, unit), hidden); e != api.ErrProof {
			t.Errorf("Hides with a row that shows the number at %d: %d", j, e)
		}
	}
	d := dice{13}
	proofs := 0
	for range 20000 {
		p := d.plan(3)
		readings, of, hidden := d.mixed(p), d.numbers(len(p.Rows), 2), d.numbers(p.Errors+1, 2)
		w := pillar.Weights{Under: d.roll(1, 3), Of: of}
		want := make([]int, p.Errors+1)
		want[0] = w.Under
		_, _, e := pillar.Bound(p, readings, w)
		f, g := pillar.Verify(p, readings, of), pillar.Hides(p, hidden)
		combines, clashes, hides := slices.Equal(sums(p, of), want), isClash(p, readings, of), isHidden(p, hidden)
		if combines != (e == api.OK) || clashes != (f == api.OK) || hides != (g == api.OK) {
			t.Fatalf("%v, %v: Bound %v %d, Verify %v %d, Hides %v %d", p, readings, w, e, of, f, hidden, g)
		}
		if combines || clashes || hides {
			proofs++
		}
	}
	if proofs < 1000 {
		t.Errorf("only %d proofs", proofs)
	}
}
