package card_test

import (
	"math"
	"reflect"
	"slices"
	"testing"

	"agonic/api"
	"agonic/card"
)

// all calls all functions, and returns what they return.
func all(c card.Card, cards []card.Card, k card.Known, heading int) []any {
	a, b := card.Deviation(c, heading)
	d, e := card.Folds(c)
	f, g := card.Courses(c, heading)
	h, i := card.Allowance(c, heading)
	j, l := card.Inverse(c)
	m, n := card.Follow(cards, heading)
	o, p, q := card.Within(k, heading)
	return []any{card.Check(c), a, b, d, e, f, g, h, i, j, l, m, n, card.Sure(k), o, p, q}
}

// R3: a nil list and a list without elements mean the same.
func TestNilLists(t *testing.T) {
	x := all(nil, nil, nil, 0)
	y := all(card.Card{}, []card.Card{}, card.Known{}, 0)
	if !reflect.DeepEqual(x, y) {
		t.Errorf("nil lists: %v, empty ones: %v", x, y)
	}
	a, e := card.Follow([]card.Card{even(), nil}, 0)
	b, f := card.Follow([]card.Card{even(), {}}, 0)
	if a != b || e != f {
		t.Errorf("a nil card: %v %d, an empty one: %v %d", a, e, b, f)
	}
}

// overwrite changes all lists of results.
func overwrite(results []any) {
	for _, r := range results {
		switch l := r.(type) {
		case []int:
			for i := range l {
				l[i] = 77777
			}
		case []api.Ratio:
			for i := range l {
				l[i] = part(77777, 1)
			}
		case card.Card:
			for i := range l {
				l[i] = card.Point{Heading: 77777, Deviation: 77777}
			}
		}
	}
}

// R4: arguments stay as they are, and results share no memory with them or with later results.
func TestMemory(t *testing.T) {
	d := dice{16}
	for range 1000 {
		c, o, k, heading := d.any(), d.any(), d.sure(), d.roll(0, 3599)
		cards := []card.Card{o, c, o}
		keptCard, keptOther, keptMarks := slices.Clone(c), slices.Clone(o), slices.Clone(k)
		first := all(c, cards, k, heading)
		second := all(c, cards, k, heading)
		overwrite(second)
		if !slices.Equal(c, keptCard) || !slices.Equal(o, keptOther) || !slices.Equal(k, keptMarks) || !slices.Equal(cards[1], keptCard) || len(cards) != 3 {
			t.Fatalf("arguments changed: %v %v %v", keptCard, keptOther, keptMarks)
		}
		if !reflect.DeepEqual(first, all(c, cards, k, heading)) {
			t.Fatalf("results share memory with later ones: %v %v %v", c, o, k)
		}
	}
}

// R4: a list's room behind its end stays as it is.
func TestRoomBehind(t *testing.T) {
	behind, marks := even(), uncertain()
	all(behind[:2], []card.Card{behind[:1], behind[:3]}, marks[:2], 5)
	if !slices.Equal(behind, even()) || !slices.Equal(marks, uncertain()) {
		t.Errorf("arguments changed: %v %v", behind, marks)
	}
}

// P1, R5: all functions terminate without a panic, for numbers and sizes of all kinds, and equal arguments yield equal results.
func TestAnyArguments(t *testing.T) {
	d := dice{17}
	number := func(a int) int {
		if d.roll(0, 30) == 0 {
			return d.pick(math.MinInt, math.MaxInt, -1, 0, 3600, 901, -901, 1<<50)
		}
		return a
	}
	count := map[api.Errno]int{}
	for range 6000 {
		c, k := d.any(), d.around(d.sound(), 50)
		for i, p := range c {
			if d.roll(0, 20) == 0 {
				c[i] = card.Point{Heading: number(p.Heading - d.roll(0, 3)), Deviation: number(p.Deviation)}
			}
		}
		for i, m := range k {
			if d.roll(0, 20) == 0 {
				k[i] = card.Mark{Heading: number(m.Heading - d.roll(0, 3)), Deviation: api.Span{Lo: number(m.Deviation.Lo), Hi: number(m.Deviation.Hi)}}
			}
		}
		if d.roll(0, 20) == 0 {
			c, k = slices.Repeat(c, d.roll(0, 40)), slices.Repeat(k, d.roll(0, 40))
		}
		cards := slices.Repeat([]card.Card{c}, d.roll(0, 4))
		heading := number(d.roll(0, 3599))
		if len(c) > 0 && d.roll(0, 1) == 0 {
			heading = onTurn(course(c[len(c)/2]))
		}
		first := all(c, cards, k, heading)
		all(even(), []card.Card{folded()}, uncertain(), 990)
		if !reflect.DeepEqual(first, all(c, cards, k, heading)) {
			t.Fatalf("different results: %v %v %v %d", c, cards, k, heading)
		}
		for _, i := range list(0, 6, 12, 13) {
			e, _ := first[i].(api.Errno)
			count[e]++
		}
	}
	for _, e := range []api.Errno{api.OK, api.ErrEmpty, api.ErrMany, api.ErrRange, api.ErrTwice, api.ErrOrder, api.ErrFold, api.ErrOver} {
		if count[e] < 10 {
			t.Errorf("too few of one kind: %v", count)
		}
	}
}
