package keys_test

import (
	"math"
	"reflect"
	"slices"
	"testing"

	"agonic/api"
	"agonic/keys"
)

// answers calls all functions, and returns what they return.
func (q question) answers() []any {
	a, broken := keys.Broken(q.b, q.values)
	b, first := keys.First(q.b, q.given)
	c, certain := keys.Certain(q.b, q.given)
	d, chain := keys.Chain(q.b, q.from, q.to)
	e, f, clash := keys.Clash(q.b)
	g, spare := keys.Spare(q.b)
	n, count := keys.Count(q.b, q.given)
	return []any{keys.Check(q.b), a, broken, b, first, c, certain, d, chain, e, f, clash, keys.Verify(q.b, q.there), keys.Proves(q.b, q.there, q.back), g, spare, n, count}
}

func (q question) clone() question {
	q.b, q.values, q.given = clone(q.b), slices.Clone(q.values), slices.Clone(q.given)
	q.there, q.back = slices.Clone(q.there), slices.Clone(q.back)
	return q
}

// question returns a question whose arguments are mostly without an error.
func (d *dice) question() question {
	b := d.small()
	there, back, e := keys.Clash(b)
	if e != api.OK {
		there = d.walk(b, d.someCase(b), d.roll(1, 4))
		back = d.walk(b, there[len(there)-1], d.roll(1, 4))
	}
	return question{b, spread(b, d.roll(0, 1<<b.Things-1)), d.some(b, d.roll(0, 3)), d.someCase(b), d.someCase(b), there, back}
}

// R3: a nil list and a list without elements mean the same.
func TestNilLists(t *testing.T) {
	for _, things := range list(0, 3) {
		q := question{b: keys.Book{Things: things}}
		empty := question{b: keys.Book{Things: things, Rules: []keys.Rule{}}, values: []bool{}, given: []keys.Case{}, there: []keys.Case{}, back: []keys.Case{}}
		if x, y := q.answers(), empty.answers(); !reflect.DeepEqual(x, y) {
			t.Errorf("nil lists: %v, empty ones: %v", x, y)
		}
	}
}

// overwrite changes all lists of results, and what is behind their ends.
func overwrite(results []any) {
	for _, r := range results {
		switch l := r.(type) {
		case []int:
			l = l[:cap(l)]
			for i := range l {
				l[i] = 77777
			}
		case []bool:
			l = l[:cap(l)]
			for i := range l {
				l[i] = !l[i]
			}
		case []keys.Case:
			l = l[:cap(l)]
			for i := range l {
				l[i] = keys.Case{Thing: 77777, Is: true}
			}
		}
	}
}

// R4: arguments stay as they are, and results share no memory with them, with later
// results, or with each other.
func TestMemory(t *testing.T) {
	d := dice{21}
	for range 2000 {
		q := d.question()
		kept := q.clone()
		first, second := q.answers(), q.answers()
		overwrite(second)
		if !reflect.DeepEqual(q, kept) || !reflect.DeepEqual(first, q.answers()) {
			t.Fatalf("arguments changed, or results share memory: %v", kept)
		}
		there, back, _ := keys.Clash(q.b)
		before := slices.Clone(back)
		overwrite([]any{there})
		if !slices.Equal(back, before) {
			t.Fatalf("chains share memory: %v", kept)
		}
	}
}

// R4: a list's room behind its end stays as it is.
func TestRoomBehind(t *testing.T) {
	d := dice{22}
	for range 1000 {
		all := d.question()
		all.b.Rules = append(all.b.Rules, d.book(all.b.Things, 2).Rules...)
		all.given = append(all.given, d.some(all.b, 40)...)
		kept := all.clone()
		q := all
		q.b.Rules, q.values, q.given = q.b.Rules[:len(q.b.Rules)/2], q.values[:len(q.values)/2], q.given[:d.roll(0, 3)]
		q.there, q.back = q.there[:len(q.there)-1], q.back[:len(q.back)-1]
		q.answers()
		q.values = all.values
		q.answers()
		if !reflect.DeepEqual(all, kept) {
			t.Fatalf("arguments changed: %v, were %v", all, kept)
		}
	}
}

// P1, R5: all functions terminate without a panic, for numbers and sizes of all kinds, and
// equal arguments yield equal results with the errors of the promises.
func TestAnyArguments(t *testing.T) {
	d := dice{23}
	number := func(n, rare int) int {
		if d.roll(0, rare) == 0 {
			return d.pick(math.MinInt, math.MaxInt, -1, 0, 1, 15, 23, 24, 25, 1<<32, 1<<50, -1<<62)
		}
		return n
	}
	change := func(l []keys.Case, rare int) {
		for i := range l {
			l[i].Thing = number(l[i].Thing, rare)
		}
	}
	count := map[api.Errno]int{}
	for range 10000 {
		q := d.question()
		switch d.roll(0, 5) {
		case 0:
			q.b.Things = number(q.b.Things, 1)
		case 1:
			q.b.Rules = slices.Repeat(q.b.Rules, d.pick(0, 2, 30))
		case 2:
			for i := range q.b.Rules {
				q.b.Rules[i].A.Thing, q.b.Rules[i].B.Thing = number(q.b.Rules[i].A.Thing, 20), number(q.b.Rules[i].B.Thing, 20)
			}
		case 3:
			q.values, q.given = slices.Repeat(q.values, d.roll(0, 2)), slices.Repeat(q.given, d.roll(0, 25))
			q.there, q.back = slices.Repeat(q.there, d.pick(0, 1, 1, 100)), slices.Repeat(q.back, d.pick(0, 1, 1, 100))
		case 4:
			change(q.given, 9)
			change(q.there, 9)
			change(q.back, 9)
			q.from.Thing, q.to.Thing = number(q.from.Thing, 9), number(q.to.Thing, 9)
		}
		first := q.answers()
		question{b: shut(), given: cases("0")}.answers()
		if !reflect.DeepEqual(first, q.answers()) {
			t.Fatalf("different results: %v", q)
		}
		got := q.errors(t)
		if want := q.trueErrors(); !slices.Equal(got, want) {
			t.Fatalf("%v: errors %v, want %v", q, got, want)
		}
		for _, e := range got {
			count[e]++
		}
	}
	for _, e := range []api.Errno{api.OK, api.ErrRange, api.ErrEmpty, api.ErrMany, api.ErrShape, api.ErrNone, api.ErrProof, api.ErrClash, api.ErrLost, api.ErrOver} {
		if count[e] < 100 {
			t.Errorf("too few of one kind: %v", count)
		}
	}
}

// trueErrors returns the errors of all functions by the promises, in the order of errors.
func (q question) trueErrors() []api.Errno {
	check := trueCheck(q.b)
	if check != api.OK {
		return slices.Repeat([]api.Errno{check}, 10)
	}
	var broken, first, chain, clash, count api.Errno
	if len(q.values) != q.b.Things {
		broken = api.ErrShape
	}
	switch {
	case len(q.given) > 24:
		first, count = api.ErrMany, api.ErrMany
	case !hasCases(q.b, q.given):
		first, count = api.ErrNone, api.ErrNone
	case firstByTrying(q.b, q.given) == nil:
		first = api.ErrClash
	}
	if count == api.OK && q.b.Things > 14 {
		count = api.ErrOver
	}
	if !hasCase(q.b, q.from) || !hasCase(q.b, q.to) {
		chain = api.ErrNone
	} else if sizes(q.b)[pair{q.from, q.to}] == 0 {
		chain = api.ErrLost
	}
	if firstByTrying(q.b, nil) != nil {
		clash = api.ErrNone
	}
	return []api.Errno{check, broken, first, first, chain, clash, trueVerify(q.b, q.there), trueProves(q.b, q.there, q.back), api.OK, count}
}
