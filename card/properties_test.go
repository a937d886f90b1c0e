package card_test

import (
	"math/big"
	"slices"
	"testing"

	"agonic/api"
	"agonic/card"
)

// P5.2, G3: deviations and folds in the definition's words.
func TestDeviationAgainstDefinition(t *testing.T) {
	d := dice{1}
	count := [2]int{}
	for range 1500 {
		c := d.any()
		r := reals(c)
		folds, e := card.Folds(c)
		if !slices.Equal(folds, trueFolds(r)) || e != api.OK {
			t.Fatalf("Folds(%v) = %v %d", c, folds, e)
		}
		count[min(len(folds), 1)]++
		p := c[d.roll(0, len(c)-1)].Heading
		for _, compass := range list(0, 3599, p, onTurn(p+1), onTurn(p-1), d.roll(0, 3599)) {
			got, e := card.Deviation(c, compass)
			if !same(got, trueDeviation(r, fraction(compass, 1))) || e != api.OK {
				t.Fatalf("Deviation(%v, %d) = %v %d", c, compass, got, e)
			}
		}
	}
	if count[0] < 300 || count[1] < 300 {
		t.Errorf("too few of one kind: %v", count)
	}
}

// checkCourses checks compass courses one by one, and how many they are.
func checkCourses(t *testing.T, c card.Card, magnetic int) int {
	t.Helper()
	courses, e := card.Courses(c, magnetic)
	count := trueCount(c, magnetic)
	if count < 0 {
		if len(courses) > 0 || e != api.ErrOver {
			t.Fatalf("Courses(%v, %d) = %v %d", c, magnetic, courses, e)
		}
		return count
	}
	if len(courses) != count || e != api.OK {
		t.Fatalf("Courses(%v, %d) = %v %d, want %d of them", c, magnetic, courses, e, count)
	}
	r := reals(c)
	before := fraction(-1, 1)
	for _, course := range courses {
		x := exactly(course)
		if x == nil || x.Sign() < 0 || x.Cmp(before) <= 0 || x.Cmp(fraction(api.Turn, 1)) >= 0 {
			t.Fatalf("Courses(%v, %d) = %v", c, magnetic, courses)
		}
		if trueCourse(r, x).Cmp(fraction(magnetic, 1)) != 0 {
			t.Fatalf("Courses(%v, %d) = %v, but %v leads to %v", c, magnetic, courses, x, trueCourse(r, x))
		}
		before = x
	}
	return count
}

// P5.3, G2, G3: all compass courses, in ascending order; headings of points among them.
func TestCoursesAgainstDefinition(t *testing.T) {
	d := dice{2}
	count := map[int]int{}
	for range 2000 {
		c := d.any()
		at := course(c[d.roll(0, len(c)-1)])
		for _, magnetic := range list(0, 3599, onTurn(at), onTurn(at+1), onTurn(at-1), d.roll(0, 3599)) {
			count[checkCourses(t, c, magnetic)]++
		}
	}
	for _, n := range list(-1, 1, 2, 3, 4, 5) {
		if count[n] < 15 {
			t.Errorf("too few of one kind: %v", count)
		}
	}
}

// P5.4: allowances of sound cards.
func TestAllowanceAgainstDefinition(t *testing.T) {
	d := dice{3}
	for range 3000 {
		c := d.any()
		magnetic := d.roll(0, 3599)
		got, e := card.Allowance(c, magnetic)
		if len(trueFolds(reals(c))) > 0 {
			if got != part(0, 0) || e != api.ErrFold {
				t.Fatalf("Allowance(%v, %d) = %v %d", c, magnetic, got, e)
			}
			continue
		}
		if !same(got, trueAllowance(reals(c), magnetic)) || e != api.OK {
			t.Fatalf("Allowance(%v, %d) = %v %d", c, magnetic, got, e)
		}
		courses, _ := card.Courses(c, magnetic)
		if len(courses) != 1 || !same(got, trueDeviation(reals(c), exactly(courses[0]))) {
			t.Fatalf("Allowance(%v, %d) = %v, Courses %v", c, magnetic, got, courses)
		}
	}
}

// P5.5: cards one after the other, among them those with the greatest denominators.
func TestFollowAgainstDefinition(t *testing.T) {
	d := dice{4}
	widest := new(big.Int)
	for i := range 2000 {
		var cards []card.Card
		for range d.roll(1, 3) {
			c := d.any()
			if i%4 == 0 {
				// One long segment, whose length is a prime number.
				begin := d.roll(0, 40)
				c = of(begin, d.pick(-900, 900), begin+d.pick(3559, 3557, 3547, 3541), d.roll(-900, 900))
			}
			cards = append(cards, c)
		}
		compass := d.roll(0, 3599)
		x, want := fraction(compass, 1), new(big.Rat)
		for _, c := range cards {
			deviation := trueDeviation(reals(c), x)
			want = sum(want, deviation)
			x = trueCourse(reals(c), x)
		}
		if got, e := card.Follow(cards, compass); !same(got, want) || e != api.OK {
			t.Fatalf("Follow(%v, %d) = %v %d, want %v", cards, compass, got, e, want)
		}
		if widest.Cmp(want.Denom()) < 0 {
			widest = want.Denom()
		}
	}
	if widest.Int64() < 10000000000 {
		t.Errorf("no denominator is greater than %v", widest)
	}
}

// P5.7, G4: a card is sound just if each magnetic heading has one compass course. That of
// the point at which a fold begins has others.
func TestOnce(t *testing.T) {
	d := dice{5}
	count := [2]int{}
	for range 120 {
		c := d.any()
		once := true
		for magnetic := range api.Turn {
			courses, e := card.Courses(c, magnetic)
			once = once && len(courses) == 1 && e == api.OK
		}
		folds, _ := card.Folds(c)
		if once != (len(folds) == 0) {
			t.Fatalf("%v: each heading has one course: %v, folds %v", c, once, folds)
		}
		if once {
			count[0]++
		} else {
			count[1]++
		}
	}
	if count[0] < 20 || count[1] < 20 {
		t.Errorf("too few of one kind: %v", count)
	}
}

// segmentOf returns the segment in which a compass course lies.
func segmentOf(c card.Card, course api.Ratio) int {
	for i := len(c) - 1; i >= 0; i-- {
		if c[i].Heading*course.Den <= course.Num {
			return i
		}
	}
	return len(c) - 1
}

// P5.8: in segments that do not fold there is one course more than in those that do.
func TestOneTurn(t *testing.T) {
	d := dice{6}
	several := 0
	for range 3000 {
		c := d.any()
		magnetic := onTurn(course(c[d.roll(0, len(c)-1)]) + d.roll(-9, 9))
		if slices.ContainsFunc(c, func(p card.Point) bool { return onTurn(course(p)) == magnetic }) {
			continue
		}
		courses, e := card.Courses(c, magnetic)
		folds, _ := card.Folds(c)
		more := 0
		for _, course := range courses {
			if slices.Contains(folds, segmentOf(c, course)) {
				more--
			} else {
				more++
			}
		}
		if more != 1 || e != api.OK {
			t.Fatalf("Courses(%v, %d) = %v %d, folds %v", c, magnetic, courses, e, folds)
		}
		if len(courses) > 1 {
			several++
		}
	}
	if several < 300 {
		t.Errorf("only %d with several courses", several)
	}
}

// P5.4, P5.9, G6: whoever follows the inverse comes back.
func TestBack(t *testing.T) {
	d := dice{7}
	for range 600 {
		c := d.sound()
		inverse, e := card.Inverse(c)
		folds, a := card.Folds(inverse)
		again, b := card.Inverse(inverse)
		if e != api.OK || len(inverse) != len(c) || a != api.OK || len(folds) > 0 || b != api.OK || !slices.Equal(again, c) {
			t.Fatalf("Inverse(%v) = %v %d, folds %v %d, Inverse %v %d", c, inverse, e, folds, a, again, b)
		}
		for _, p := range c {
			if !slices.Contains(inverse, card.Point{Heading: onTurn(course(p)), Deviation: -p.Deviation}) {
				t.Fatalf("Inverse(%v) = %v", c, inverse)
			}
		}
		for range 12 {
			heading := d.pick(0, 3599, c[0].Heading, inverse[0].Heading, d.roll(0, 3599))
			deviation, a := card.Deviation(inverse, heading)
			allowance, b := card.Allowance(c, heading)
			if deviation.Num != -allowance.Num || deviation.Den != allowance.Den || a != api.OK || b != api.OK {
				t.Fatalf("%v, %d: Allowance %v %d, Deviation of the inverse %v %d", c, heading, allowance, b, deviation, a)
			}
			for _, cards := range [][]card.Card{{c, inverse}, {inverse, c}} {
				if sum, e := card.Follow(cards, heading); sum != part(0, 1) || e != api.OK {
					t.Fatalf("Follow(%v, %d) = %v %d", cards, heading, sum, e)
				}
			}
		}
	}
}

// corners yields all cards with deviations at ends of spans.
func corners(k card.Known) []card.Card {
	out := []card.Card{nil}
	for _, m := range k {
		var longer []card.Card
		for _, c := range out {
			for _, end := range list(m.Deviation.Lo, m.Deviation.Hi) {
				longer = append(longer, append(slices.Clone(c), card.Point{Heading: m.Heading, Deviation: end}))
			}
		}
		out = longer
	}
	return out
}

// P5.6: some truth is not sound just if one is at ends of spans; against all of those.
func TestSureAgainstCorners(t *testing.T) {
	d := dice{8}
	count := [2]int{}
	for range 2000 {
		c := d.any()
		k := d.around(c[:min(len(c), 7)], d.pick(0, 1, 5, 50, 400))
		want := api.OK
		for _, c := range corners(k) {
			if len(trueFolds(reals(c))) > 0 {
				want = api.ErrFold
			}
		}
		if e := card.Sure(k); e != want {
			t.Fatalf("Sure(%v) = %d, want %d", k, e, want)
		}
		lo, hi, e := card.Within(k, 5)
		if e != want || want != api.OK && (lo != part(0, 0) || hi != part(0, 0)) {
			t.Fatalf("Within(%v) = %v %v %d, want %d", k, lo, hi, e, want)
		}
		if want == api.OK {
			count[0]++
		} else {
			count[1]++
		}
	}
	if count[0] < 300 || count[1] < 300 {
		t.Errorf("too few of one kind: %v", count)
	}
}

// P5.6: marks of all sizes, of which two neighbours decide.
func TestSureAgainstNeighbours(t *testing.T) {
	d := dice{9}
	count := [2]int{}
	for range 3000 {
		k := d.around(d.sound(), d.pick(0, 1, 3, 10, 100))
		want := api.ErrFold
		if trulySure(k) {
			want = api.OK
		}
		if e := card.Sure(k); e != want {
			t.Fatalf("Sure(%v) = %d, want %d", k, e, want)
		}
		count[min(int(want), 1)]++
	}
	if count[0] < 300 || count[1] < 300 {
		t.Errorf("too few of one kind: %v", count)
	}
}

// realTruth returns a truth with deviations that are any fractions.
func (d *dice) realTruth(k card.Known) []real {
	var out []real
	for _, m := range k {
		share := fraction(d.roll(0, 12), 12)
		wide := fraction(m.Deviation.Hi-m.Deviation.Lo, 1)
		out = append(out, real{m.Heading, sum(fraction(m.Deviation.Lo, 1), product(share, wide))})
	}
	return out
}

// P5.6, P5.10, G1, G3: allowances of truths lie within, and both ends are attained.
func TestWithinTruths(t *testing.T) {
	d := dice{10}
	wide := 0
	for range 1500 {
		k := d.sure()
		magnetic := d.roll(0, 3599)
		lo, hi, e := card.Within(k, magnetic)
		a, b := exactly(lo), exactly(hi)
		if e != api.OK || a == nil || b == nil {
			t.Fatalf("Within(%v, %d) = %v %v %d", k, magnetic, lo, hi, e)
		}
		for range 8 {
			for _, truth := range [][]real{reals(d.truth(k)), d.realTruth(k)} {
				x := trueAllowance(truth, magnetic)
				if x.Cmp(a) < 0 || x.Cmp(b) > 0 {
					t.Fatalf("Within(%v, %d) = %v %v, but %v has %v", k, magnetic, lo, hi, truth, x)
				}
			}
		}
		if a.Cmp(b) < 0 {
			wide++
		}
		if len(k) <= 7 {
			checkAttained(t, k, magnetic, lo, hi)
		}
	}
	if wide < 500 {
		t.Errorf("only %d allowances of several", wide)
	}
}

// checkAttained expects that truths at ends of spans have the smallest and the greatest allowance.
func checkAttained(t *testing.T, k card.Known, magnetic int, lo, hi api.Ratio) {
	t.Helper()
	least, most := false, false
	for _, c := range corners(k) {
		x, e := card.Allowance(c, magnetic)
		if e != api.OK || exactly(x).Cmp(exactly(lo)) < 0 || exactly(x).Cmp(exactly(hi)) > 0 {
			t.Fatalf("Within(%v, %d) = %v %v, but %v has %v %d", k, magnetic, lo, hi, c, x, e)
		}
		least = least || x == lo
		most = most || x == hi
	}
	if !least || !most {
		t.Fatalf("Within(%v, %d) = %v %v is not attained", k, magnetic, lo, hi)
	}
}

// P5.6: marks that are known exactly have the allowance of their card.
func TestWithinExactly(t *testing.T) {
	d := dice{11}
	for range 1000 {
		c := d.any()
		magnetic := d.roll(0, 3599)
		want, f := card.Allowance(c, magnetic)
		lo, hi, e := card.Within(d.around(c, 0), magnetic)
		if lo != want || hi != want || e != f {
			t.Fatalf("Within(%v, %d) = %v %v %d, Allowance %v %d", c, magnetic, lo, hi, e, want, f)
		}
	}
}

// P5.10, G1: with spans within others it does not become wider, and stays sound.
func TestMoreKnowledge(t *testing.T) {
	d := dice{12}
	narrower := 0
	for range 2000 {
		k := d.sure()
		less := slices.Clone(k)
		for i, m := range less {
			lo := d.roll(m.Deviation.Lo, m.Deviation.Hi)
			less[i].Deviation = api.Span{Lo: lo, Hi: d.roll(lo, m.Deviation.Hi)}
		}
		magnetic := d.roll(0, 3599)
		a, b, e := card.Within(k, magnetic)
		x, y, f := card.Within(less, magnetic)
		if e != api.OK || f != api.OK || exactly(x).Cmp(exactly(a)) < 0 || exactly(y).Cmp(exactly(b)) > 0 || exactly(x).Cmp(exactly(y)) > 0 {
			t.Fatalf("Within(%v, %d) = %v %v %d, of %v %v %v %d", k, magnetic, a, b, e, less, x, y, f)
		}
		if x != a || y != b {
			narrower++
		}
	}
	if narrower < 500 {
		t.Errorf("only %d became narrower", narrower)
	}
}

// P5.11: greater deviations shift the compass courses back.
func TestGreater(t *testing.T) {
	d := dice{13}
	count := 0
	for range 4000 {
		c, by := d.sound(), d.roll(-900, 900)
		more := greater(c, by)
		if card.Check(more) != api.OK {
			continue
		}
		count++
		magnetic := d.roll(0, 3599)
		folds, a := card.Folds(more)
		courses, b := card.Courses(more, magnetic)
		before, e := card.Courses(c, onTurn(magnetic-by))
		if len(folds) > 0 || a != api.OK || !slices.Equal(courses, before) || b != api.OK || len(courses) != 1 || e != api.OK {
			t.Fatalf("%v and %d more: folds %v, Courses(%d) %v %d, before %v %d", c, by, folds, magnetic, courses, b, before, e)
		}
	}
	if count < 500 {
		t.Errorf("only %d", count)
	}
}

// moved returns fractions that are multiplied by a sign, and turned, in ascending order.
func moved(l []api.Ratio, sign, by int) []*big.Rat {
	var out []*big.Rat
	for _, r := range l {
		out = append(out, wrapped(sum(product(exactly(r), fraction(sign, 1)), fraction(by, 1))))
	}
	slices.SortFunc(out, (*big.Rat).Cmp)
	return out
}

func equal(a, b []*big.Rat) bool {
	return slices.EqualFunc(a, b, func(x, y *big.Rat) bool { return x.Cmp(y) == 0 })
}

// P5.12, G5: turned and negated cards have turned and negated courses.
func TestSymmetry(t *testing.T) {
	d := dice{14}
	for range 3000 {
		c, by, heading := d.any(), d.roll(0, 3599), d.roll(0, 3599)
		round, back := turned(c, by), negated(c)
		a, e := card.Courses(c, heading)
		b, f := card.Courses(round, onTurn(heading+by))
		g, h := card.Courses(back, onTurn(-heading))
		if e != f || e != h || !equal(moved(a, 1, by), moved(b, 1, 0)) || !equal(moved(a, -1, 0), moved(g, 1, 0)) {
			t.Fatalf("Courses(%v, %d) = %v %d, turned by %d %v %d, negated %v %d", c, heading, a, e, by, b, f, g, h)
		}
		x, _ := card.Deviation(c, heading)
		y, _ := card.Deviation(round, onTurn(heading+by))
		z, _ := card.Deviation(back, onTurn(-heading))
		if x != y || x.Num != -z.Num || x.Den != z.Den {
			t.Fatalf("Deviation(%v, %d) = %v, turned by %d %v, negated %v", c, heading, x, by, y, z)
		}
		k, _ := card.Folds(c)
		l, _ := card.Folds(round)
		m, _ := card.Folds(back)
		if len(k) != len(l) || len(k) != len(m) {
			t.Fatalf("Folds(%v) = %v, turned by %d %v, negated %v", c, k, by, l, m)
		}
	}
}

// P5.12, G5: so do allowances, cards one after the other, and what is known only within spans.
func TestSymmetryOfOthers(t *testing.T) {
	d := dice{15}
	for range 1500 {
		k, by, heading := d.sure(), d.roll(0, 3599), d.roll(0, 3599)
		var round, back card.Known
		for _, m := range k {
			round = append(round, card.Mark{Heading: onTurn(m.Heading + by), Deviation: m.Deviation})
			back = append(back, card.Mark{Heading: onTurn(-m.Heading), Deviation: api.Span{Lo: -m.Deviation.Hi, Hi: -m.Deviation.Lo}})
		}
		for _, l := range []card.Known{round, back} {
			slices.SortFunc(l, func(a, b card.Mark) int { return a.Heading - b.Heading })
		}
		lo, hi, e := card.Within(k, heading)
		a, b, f := card.Within(round, onTurn(heading+by))
		x, y, g := card.Within(back, onTurn(-heading))
		if e != api.OK || f != api.OK || g != api.OK || lo != a || hi != b || lo.Num != -y.Num || hi.Num != -x.Num || lo.Den != y.Den || hi.Den != x.Den {
			t.Fatalf("Within(%v, %d) = %v %v, turned by %d %v %v, negated %v %v", k, heading, lo, hi, by, a, b, x, y)
		}
		c, o := d.any(), d.any()
		p, _ := card.Follow([]card.Card{c, o}, heading)
		q, _ := card.Follow([]card.Card{turned(c, by), turned(o, by)}, onTurn(heading+by))
		r, _ := card.Follow([]card.Card{negated(c), negated(o)}, onTurn(-heading))
		if p != q || p.Num != -r.Num || p.Den != r.Den {
			t.Fatalf("Follow(%v, %v, %d) = %v, turned by %d %v, negated %v", c, o, heading, p, by, q, r)
		}
	}
}
