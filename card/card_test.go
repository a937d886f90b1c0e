package card_test

import (
	"math"
	"slices"
	"testing"

	"agonic/api"
	"agonic/card"
)

// Terms, Limits: the chapter's limits.
func TestLimits(t *testing.T) {
	if got := list(card.MaxPoints, card.MaxDeviation, card.MaxCards); !slices.Equal(got, list(36, 900, 3)) {
		t.Errorf("limits %v", got)
	}
}

type badCard struct {
	c card.Card
	e api.Errno
}

// badCards are cards with errors, in the order in which they are examined.
func badCards() []badCard {
	return []badCard{
		{nil, api.ErrEmpty},
		{card.Card{}, api.ErrEmpty},
		{make(card.Card, 37), api.ErrMany},
		{slices.Repeat(of(-1, 901), 37), api.ErrMany},
		{make(card.Card, 36), api.ErrTwice},
		{of(-1, 0), api.ErrRange},
		{of(3600, 0), api.ErrRange},
		{of(0, 901), api.ErrRange},
		{of(0, -901), api.ErrRange},
		{of(math.MinInt, 0), api.ErrRange},
		{of(math.MaxInt, 0), api.ErrRange},
		{of(0, math.MinInt), api.ErrRange},
		{of(0, math.MaxInt), api.ErrRange},
		{of(5, 0, -1, 0), api.ErrRange},
		{of(5, 0, 3600, 0), api.ErrRange},
		{of(5, 0, 5, 901), api.ErrRange},
		{of(5, 0, 4, -901), api.ErrRange},
		{of(5, 0, 5, 0), api.ErrTwice},
		{of(0, 0, 0, 1), api.ErrTwice},
		{of(3599, 0, 3599, 0), api.ErrTwice},
		{of(5, 0, 4, 0), api.ErrOrder},
		{of(3599, 0, 0, 0), api.ErrOrder},
		{of(5, 0, 5, 0, 4, 0), api.ErrTwice},
		{of(5, 0, 4, 0, 4, 0), api.ErrOrder},
		{of(5, 0, 4, 0, 9, 901), api.ErrOrder},
		{of(5, 0, 9, 901, 4, 0), api.ErrRange},
		{of(5, 0, 9, 0, 5, 0), api.ErrOrder},
	}
}

// failures returns the errors of all functions of a card, and expects zero values beside them.
func failures(t *testing.T, c card.Card, heading int) []api.Errno {
	t.Helper()
	deviation, a := card.Deviation(c, heading)
	folds, b := card.Folds(c)
	courses, d := card.Courses(c, heading)
	allowance, e := card.Allowance(c, heading)
	inverse, f := card.Inverse(c)
	follow, g := card.Follow([]card.Card{c}, heading)
	last, h := card.Follow([]card.Card{even(), folded(), c}, heading)
	zero := api.Ratio{}
	if a != api.OK && deviation != zero || b != api.OK && len(folds) > 0 || d != api.OK && len(courses) > 0 || e != api.OK && allowance != zero || f != api.OK && len(inverse) > 0 || g != api.OK && follow != zero || h != api.OK && last != zero {
		t.Errorf("%v, an error and %v, %v, %v, %v, %v, %v, %v", c, deviation, folds, courses, allowance, inverse, follow, last)
	}
	return []api.Errno{card.Check(c), a, b, d, e, f, g, h}
}

// P5.1, and the first error of each function of a card.
func TestBadCards(t *testing.T) {
	for i, x := range badCards() {
		for _, heading := range list(0, -1, 3600) {
			for j, e := range failures(t, x.c, heading) {
				if e != x.e {
					t.Errorf("card %d, function %d: %d, want %d", i, j, e, x.e)
				}
			}
		}
	}
}

// P5.1 to P5.5: cards without errors, and what the functions say of headings that are none.
func TestGoodCards(t *testing.T) {
	var full card.Card
	for i := range 36 {
		full = append(full, card.Point{Heading: 3564 + i, Deviation: 900 - i/2})
	}
	for i, c := range []card.Card{even(), of(0, 900), of(3599, -900), of(0, 0, 3599, 900), full} {
		bad, fold := api.ErrRange, api.OK
		if len(trueFolds(reals(c))) > 0 {
			fold = api.ErrFold
		}
		for _, heading := range list(-1, 3600, math.MinInt, math.MaxInt) {
			want := []api.Errno{api.OK, bad, api.OK, bad, bad, fold, bad, bad}
			if got := failures(t, c, heading); !slices.Equal(got, want) {
				t.Errorf("card %d, %d: %v, want %v", i, heading, got, want)
			}
		}
		for _, heading := range list(0, 3599) {
			want := []api.Errno{api.OK, api.OK, api.OK, api.OK, fold, fold, api.OK, api.OK}
			if got := failures(t, c, heading); !slices.Equal(got, want) {
				t.Errorf("card %d, %d: %v, want %v", i, heading, got, want)
			}
		}
	}
	want := []api.Errno{api.OK, api.ErrRange, api.OK, api.ErrRange, api.ErrRange, api.ErrFold, api.ErrRange, api.ErrRange}
	if got := failures(t, folded(), 3600); !slices.Equal(got, want) {
		t.Errorf("B: %v, want %v", got, want)
	}
}

// P5.2: deviations on points, in segments, and in the one that leads over the turn.
func TestDeviation(t *testing.T) {
	for i, x := range []struct {
		c       card.Card
		compass int
		want    api.Ratio
	}{
		{even(), 450, part(45, 1)},
		{even(), 900, part(90, 1)},
		{even(), 3599, part(-1, 10)},
		{even(), 0, part(0, 1)},
		{even(), 2250, part(-45, 1)},
		{even(), 2700, part(-90, 1)},
		{folded(), 50, part(-100, 1)},
		{folded(), 99, part(-198, 1)},
		{folded(), 100, part(-200, 1)},
		{folded(), 101, part(-6998, 35)},
		{of(1000, 60), 0, part(60, 1)},
		{of(1000, 60), 999, part(60, 1)},
		{of(1000, 60), 1000, part(60, 1)},
		{of(1000, 60), 3599, part(60, 1)},
		{of(3599, -900), 0, part(-900, 1)},
		{of(600, 0, 3000, 12), 0, part(6, 1)},
		{of(600, 0, 3000, 12), 599, part(1, 100)},
		{of(600, 0, 3000, 12), 3001, part(1199, 100)},
		{of(0, -900, 3599, 900), 1, part(-3237300, 3599)},
		{of(1, -900, 2, 900), 0, part(-3237300, 3599)},
	} {
		got, e := card.Deviation(x.c, x.compass)
		if got != x.want || e != api.OK {
			t.Errorf("%d: Deviation %v %d, want %v", i, got, e, x.want)
		}
	}
}

// P5.2, P5.3, P5.4: folds, all compass courses, and the allowance if there is no fold.
func TestCourses(t *testing.T) {
	for i, x := range []struct {
		c         card.Card
		folds     []int
		magnetic  int
		want      []api.Ratio
		e         api.Errno
		allowance api.Ratio
	}{
		{even(), nil, 990, parts(900, 1), api.OK, part(90, 1)},
		{even(), nil, 1000, parts(8200, 9), api.OK, part(800, 9)},
		{even(), nil, 0, parts(0, 1), api.OK, part(0, 1)},
		{even(), nil, 3599, parts(39590, 11), api.OK, part(-1, 11)},
		{folded(), list(0), 3550, parts(50, 1, 5450, 37, 131450, 37), api.OK, part(0, 0)},
		{folded(), list(0), 3400, parts(126200, 37), api.OK, part(0, 0)},
		{folded(), list(0), 3499, parts(129665, 37), api.OK, part(0, 0)},
		{folded(), list(0), 1, parts(7235, 37), api.OK, part(0, 0)},
		// A course at which a segment turns back is there once.
		{folded(), list(0), 3500, parts(100, 1, 129700, 37), api.OK, part(0, 0)},
		{folded(), list(0), 0, parts(0, 1, 7200, 37), api.OK, part(0, 0)},
		// One point: the same deviation everywhere.
		{of(1000, 60), nil, 30, parts(3570, 1), api.OK, part(60, 1)},
		{of(1000, 60), nil, 59, parts(3599, 1), api.OK, part(60, 1)},
		{of(1000, 60), nil, 60, parts(0, 1), api.OK, part(60, 1)},
		{of(1000, -60), nil, 3590, parts(50, 1), api.OK, part(-60, 1)},
		{of(3599, 900), nil, 899, parts(3599, 1), api.OK, part(900, 1)},
		{of(3599, -900), nil, 2698, parts(3598, 1), api.OK, part(-900, 1)},
		// Flat segments, of which one leads over the turn, and one has its course behind it.
		{of(0, 0, 100, -100), list(0), 0, nil, api.ErrOver, part(0, 0)},
		{of(0, 0, 100, -100), list(0), 36, parts(135, 1), api.OK, part(0, 0)},
		{of(50, -60, 3550, 40), list(1), 3590, nil, api.ErrOver, part(0, 0)},
		{of(50, -60, 3550, 40), list(1), 3591, parts(1835, 36), api.OK, part(0, 0)},
		{of(3500, 250, 3550, 200), list(0), 150, nil, api.ErrOver, part(0, 0)},
		{of(3500, 250, 3550, 200), list(0), 151, parts(255671, 72), api.OK, part(0, 0)},
		{of(10, -20, 20, -30, 30, -29), list(0), 3590, nil, api.ErrOver, part(0, 0)},
		{of(10, -20, 20, -30, 30, -29), list(0), 3592, parts(240, 11), api.OK, part(0, 0)},
		// Two folds; a heading between them has one compass course.
		{of(0, 300, 100, 100, 200, 300, 300, 100), list(0, 2), 350, parts(150, 1), api.OK, part(0, 0)},
		{of(0, 300, 100, 100, 200, 300, 300, 100), list(0, 2), 400, parts(500, 3, 300, 1), api.OK, part(0, 0)},
		// A segment that rises by more than a turn meets a heading twice.
		{of(0, 900, 1, -900), list(0), 0, parts(900, 1799, 3240900, 5399, 16197300, 5399), api.OK, part(0, 0)},
		{of(0, 900, 1, -900), list(0), 900, parts(0, 1, 6480000, 5399), api.OK, part(0, 0)},
		{of(0, 900, 1, -900), list(0), 2000, parts(10438900, 5399), api.OK, part(0, 0)},
	} {
		folds, a := card.Folds(x.c)
		courses, b := card.Courses(x.c, x.magnetic)
		allowance, d := card.Allowance(x.c, x.magnetic)
		fold := api.OK
		if len(x.folds) > 0 {
			fold = api.ErrFold
		}
		if !slices.Equal(folds, x.folds) || a != api.OK || !slices.Equal(courses, x.want) || b != x.e || allowance != x.allowance || d != fold {
			t.Errorf("%d: Folds %v %d, Courses %v %d, Allowance %v %d", i, folds, a, courses, b, allowance, d)
		}
	}
}

// P5.2, P5.4: a rise of 1 is none too few, one of 0 is.
func TestLeastRise(t *testing.T) {
	for i, x := range []struct {
		c     card.Card
		folds []int
	}{
		{of(100, 50, 150, 1), nil},
		{of(100, 50, 150, 0), list(0)},
		{of(100, 50, 150, -1), list(0)},
		{of(10, -20, 3590, -1), nil},
		{of(10, -20, 3590, 0), list(1)},
		{of(10, -20, 3590, 1), list(1)},
		{of(0, 2, 1, 1, 2, 1, 3, 0), list(0, 2)},
		{of(0, 2, 1, 1, 2, 1, 3599, 4), list(0, 3)},
	} {
		folds, a := card.Folds(x.c)
		inverse, b := card.Inverse(x.c)
		_, d := card.Allowance(x.c, 0)
		fold := api.OK
		if len(x.folds) > 0 {
			fold = api.ErrFold
		}
		if !slices.Equal(folds, x.folds) || a != api.OK || b != fold || d != fold || fold != api.OK && len(inverse) > 0 {
			t.Errorf("%d: Folds %v %d, Inverse %v %d, Allowance %d", i, folds, a, inverse, b, d)
		}
	}
}

// P5.4: inverse cards, in the order of their own headings.
func TestInverse(t *testing.T) {
	for i, x := range []struct{ c, want card.Card }{
		{even(), of(0, 0, 990, -90, 1800, 0, 2610, 90)},
		{of(1000, 60), of(1060, -60)},
		{of(3599, 900), of(899, -900)},
		{of(0, -900), of(2700, 900)},
		{of(10, -20, 1800, 0), of(1800, 0, 3590, 20)},
		{of(10, -10, 1800, 0), of(0, 10, 1800, 0)},
		{of(0, 5, 3590, 12), of(2, -12, 5, -5)},
		{of(0, 5, 3590, 10), of(0, -10, 5, -5)},
		{of(600, 0, 3000, 12), of(600, 0, 3012, -12)},
		{of(0, 900, 3598, 900, 3599, 900), of(898, -900, 899, -900, 900, -900)},
	} {
		c, a := card.Inverse(x.c)
		d, b := card.Inverse(x.want)
		if !slices.Equal(c, x.want) || a != api.OK || !slices.Equal(d, x.c) || b != api.OK {
			t.Errorf("%d: Inverse %v %d, and of that %v %d", i, c, a, d, b)
		}
	}
}

// P5.5: one, two and three cards, and the order of errors.
func TestFollow(t *testing.T) {
	cards := func(c ...card.Card) []card.Card { return c }
	back := of(0, 0, 990, -90, 1800, 0, 2610, 90)
	long := cards(of(0, -900, 3599, 900), of(1, 900, 3594, -900), of(3, 900, 3586, -900))
	for i, x := range []struct {
		cards   []card.Card
		compass int
		want    api.Ratio
		e       api.Errno
	}{
		{cards(even()), 450, part(45, 1), api.OK},
		{cards(even(), back), 450, part(0, 1), api.OK},
		{cards(even(), even()), 900, part(171, 1), api.OK},
		{cards(even(), even(), even()), 10, part(331, 100), api.OK},
		{cards(of(1000, 60), even()), 390, part(105, 1), api.OK},
		{cards(even(), of(1000, 60)), 450, part(105, 1), api.OK},
		{cards(of(1000, 60), even()), 3590, part(65, 1), api.OK},
		{cards(of(1000, 60), of(0, -90), of(7, 1)), 20, part(-29, 1), api.OK},
		// The sum of deviations is not brought back to a turn, though courses are.
		{cards(of(0, 900), of(0, 900), of(0, 900)), 3599, part(2700, 1), api.OK},
		{cards(of(0, -900), of(0, -900), of(0, -900)), 0, part(-2700, 1), api.OK},
		// Cards that fold can be followed.
		{cards(folded(), folded()), 50, part(-720, 7), api.OK},
		{cards(folded(), folded()), 3599, part(-144, 1225), api.OK},
		// Denominators as great as they can be.
		{long, 1, part(-73229353967700, 46332514681), api.OK},
		{long, 3598, part(72950389719300, 46332514681), api.OK},
		{nil, 0, part(0, 0), api.ErrEmpty},
		{cards(), -1, part(0, 0), api.ErrEmpty},
		{make([]card.Card, 4), -1, part(0, 0), api.ErrMany},
		{cards(even(), even(), even(), even()), 0, part(0, 0), api.ErrMany},
		{cards(even(), nil), 9999, part(0, 0), api.ErrEmpty},
		{cards(of(5, 0, 4, 0), of(5, 0, 5, 0)), 0, part(0, 0), api.ErrOrder},
		{cards(of(5, 0), of(5, 0, 5, 0), of(5, 0, 4, 0)), 3600, part(0, 0), api.ErrTwice},
		{cards(even(), even(), of(0, 901)), 0, part(0, 0), api.ErrRange},
		{cards(make(card.Card, 37), nil), 0, part(0, 0), api.ErrMany},
		{cards(folded()), 3600, part(0, 0), api.ErrRange},
		{cards(even(), even()), -1, part(0, 0), api.ErrRange},
		{cards(even()), math.MaxInt, part(0, 0), api.ErrRange},
		{cards(even()), math.MinInt, part(0, 0), api.ErrRange},
	} {
		if got, e := card.Follow(x.cards, x.compass); got != x.want || e != x.e {
			t.Errorf("%d: Follow %v %d, want %v %d", i, got, e, x.want, x.e)
		}
	}
}

// P5.6: the first error of marks, with a heading and without one; ErrFold is the last one.
func TestBadMarks(t *testing.T) {
	for i, x := range []struct {
		k card.Known
		e api.Errno
	}{
		{nil, api.ErrEmpty},
		{card.Known{}, api.ErrEmpty},
		{make(card.Known, 37), api.ErrMany},
		{slices.Repeat(known(-1, 1, 0), 37), api.ErrMany},
		{make(card.Known, 36), api.ErrTwice},
		{known(-1, 0, 0), api.ErrRange},
		{known(3600, 0, 0), api.ErrRange},
		{known(math.MinInt, 0, 0), api.ErrRange},
		{known(math.MaxInt, 0, 0), api.ErrRange},
		{known(0, -901, 0), api.ErrRange},
		{known(0, 0, 901), api.ErrRange},
		{known(0, 901, 901), api.ErrRange},
		{known(0, -901, -901), api.ErrRange},
		{known(0, 1, 0), api.ErrRange},
		{known(0, math.MinInt, math.MaxInt), api.ErrRange},
		{known(0, math.MaxInt, math.MinInt), api.ErrRange},
		{known(5, 0, 0, 5, 1, 0), api.ErrRange},
		{known(5, 0, 0, 4, 0, 901), api.ErrRange},
		{known(5, 0, 0, 5, 0, 0), api.ErrTwice},
		{known(0, 0, 0, 0, 0, 0), api.ErrTwice},
		{known(5, 0, 0, 4, 0, 0), api.ErrOrder},
		{known(5, 0, 0, 4, 0, 0, 9, 1, 0), api.ErrOrder},
		{known(5, 0, 0, 9, 1, 0, 4, 0, 0), api.ErrRange},
		{known(5, 0, 9, 6, 0, 9, 6, 0, 0), api.ErrTwice},
		{known(5, 0, 9, 6, 0, 9, 4, 0, 0), api.ErrOrder},
		{known(5, 0, 9, 6, 0, 9, 7, 1, 0), api.ErrRange},
	} {
		if e := card.Sure(x.k); e != x.e {
			t.Errorf("%d: Sure %d, want %d", i, e, x.e)
		}
		for _, magnetic := range list(0, -1, 3600) {
			if lo, hi, e := card.Within(x.k, magnetic); e != x.e || lo != part(0, 0) || hi != part(0, 0) {
				t.Errorf("%d: Within %v %v %d, want %d", i, lo, hi, e, x.e)
			}
		}
	}
	for _, magnetic := range list(-1, 3600, math.MinInt, math.MaxInt) {
		for i, k := range []card.Known{uncertain(), known(0, 0, 0, 100, -100, 0)} {
			if lo, hi, e := card.Within(k, magnetic); e != api.ErrRange || lo != part(0, 0) || hi != part(0, 0) {
				t.Errorf("%d: Within(%d) %v %v %d", i, magnetic, lo, hi, e)
			}
		}
	}
}

// P5.6: the ends of the allowance, and truths that are not sound.
func TestWithin(t *testing.T) {
	for i, x := range []struct {
		k        card.Known
		magnetic int
		lo, hi   api.Ratio
		e        api.Errno
	}{
		{uncertain(), 990, part(3240, 41), part(99, 1), api.OK},
		{uncertain(), 0, part(0, 1), part(0, 1), api.OK},
		{uncertain(), 2610, part(-90, 1), part(-90, 1), api.OK},
		{known(0, 0, 0, 900, 90, 90, 1800, 0, 0, 2700, -90, -90), 1000, part(800, 9), part(800, 9), api.OK},
		{known(5, -900, 900), 100, part(-900, 1), part(900, 1), api.OK},
		{known(3599, 900, 900), 0, part(900, 1), part(900, 1), api.OK},
		{known(0, 0, 0, 100, -99, 0), 1, part(-99, 1), part(0, 1), api.OK},
		{known(0, 0, 0, 100, -100, 0), 1, part(0, 0), part(0, 0), api.ErrFold},
		{known(0, 0, 1, 100, -99, 0), 1, part(0, 0), part(0, 0), api.ErrFold},
		{known(0, 0, 1, 100, -98, 0), 1, part(-49, 1), part(1, 1), api.OK},
		{known(100, -50, 0, 3550, 0, 99), 1, part(-51, 2), part(115533, 1183), api.OK},
		{known(100, -50, 0, 3550, 0, 100), 1, part(0, 0), part(0, 0), api.ErrFold},
		{known(100, -51, 0, 3550, 0, 99), 1, part(0, 0), part(0, 0), api.ErrFold},
		// Two truths of the smallest and of the greatest deviations are sound, others are not.
		{known(0, 0, 50, 40, 0, 50), 1, part(0, 0), part(0, 0), api.ErrFold},
	} {
		if e := card.Sure(x.k); e != x.e {
			t.Errorf("%d: Sure %d, want %d", i, e, x.e)
		}
		if lo, hi, e := card.Within(x.k, x.magnetic); lo != x.lo || hi != x.hi || e != x.e {
			t.Errorf("%d: Within %v %v %d, want %v %v %d", i, lo, hi, e, x.lo, x.hi, x.e)
		}
	}
}
