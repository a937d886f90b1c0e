package swing_test

import (
	"math"
	"reflect"
	"slices"
	"strings"
	"testing"

	"agonic/api"
	"agonic/swing"
)

// answers calls all functions, and returns what they return, results before their errors.
func (q question) answers() []any {
	row, turn, a := swing.Smallest(q.rim)
	factors, b := swing.Factors(q.row)
	length, c := swing.Clear(q.rim)
	where, d := swing.Where(q.rim, q.seen)
	bars, e := swing.Bars(q.length)
	ring, f := swing.Ring(q.order)
	rims, g := swing.Rims(q.marks)
	return []any{swing.Check(q.rim), row, turn, a, factors, b, length, c, where, d, bars, e, ring, f, rims, g}
}

// errors returns the errors of all functions, and expects zero values beside them.
func (q question) errors(t *testing.T) []api.Errno {
	t.Helper()
	var errors []api.Errno
	var results []reflect.Value
	for _, x := range q.answers() {
		e, is := x.(api.Errno)
		if !is {
			results = append(results, reflect.ValueOf(x))
			continue
		}
		for _, r := range results {
			if e != api.OK && !r.IsZero() && (r.Kind() != reflect.Slice || r.Len() > 0) {
				t.Errorf("%v: error %d and %v", q, e, r)
			}
		}
		errors, results = append(errors, e), nil
	}
	return errors
}

// question returns a question whose arguments are without an error, but for rims of which
// parts come again.
func (d *dice) question() question {
	rim := d.rim()
	seen := d.seen(rim, d.roll(0, len(rim)-1), d.roll(1, d.pick(3, 8, 64)))
	if d.roll(0, 2) == 0 {
		seen = d.hidden(d.row(d.roll(1, 12)), 3)
	}
	return question{rim, seen, d.rim()[d.roll(0, 1):], d.roll(1, 6), d.roll(1, 6), d.roll(1, 40)}
}

// R4: results share no memory with later results.
func TestMemory(t *testing.T) {
	d := dice{21}
	for range 1000 {
		q := d.question()
		first, second := q.answers(), q.answers()
		for _, r := range second {
			switch l := r.(type) {
			case []int:
				l = l[:cap(l)]
				for i := range l {
					l[i] = 77777
				}
			case []string:
				l = l[:cap(l)]
				for i := range l {
					l[i] = "other"
				}
			}
		}
		if !reflect.DeepEqual(first, q.answers()) {
			t.Fatalf("results share memory: %v", q)
		}
	}
}

// spoiled returns a string with another byte in it, or with more of them, or of none.
func (d *dice) spoiled(row string) string {
	part := rows("0", "1", "?", "2", "x", " ", "\x00", "\x80", "é", "０", "01", "?x")[d.roll(0, 11)]
	at := d.roll(0, len(row))
	switch d.roll(0, 5) {
	case 0:
		return ""
	case 1:
		return row + strings.Repeat(part, d.roll(60, 66)-min(60, len(row)))
	case 2:
		return strings.Repeat(part, d.pick(63, 64, 65, 1000))
	}
	return row[:at] + part + row[at:]
}

// P1, R5: all functions terminate without a panic, for texts and numbers of all kinds, and
// equal arguments yield equal results with the errors of the promises.
func TestAnyArguments(t *testing.T) {
	d := dice{22}
	number := func(n int) int {
		if d.roll(0, 3) == 0 {
			return d.pick(math.MinInt, math.MaxInt, -1, 0, 1, 6, 7, 39, 40, 41, 63, 64, 65, 1<<32, 1<<32+1, 1<<50, -1<<62)
		}
		return n
	}
	count := map[api.Errno]int{}
	for range 6000 {
		q := d.question()
		for _, text := range []*string{&q.rim, &q.seen, &q.row} {
			if d.roll(0, 3) == 0 {
				*text = d.spoiled(*text)
			}
		}
		q.length, q.order, q.marks = number(q.length), number(q.order), number(q.marks)
		first := q.answers()
		ask("00010111").answers()
		if !reflect.DeepEqual(first, q.answers()) {
			t.Fatalf("different results: %v", q)
		}
		got := q.errors(t)
		if want := q.trueErrors(); !slices.Equal(got, want) {
			t.Fatalf("%#v: errors %v, want %v", q, got, want)
		}
		for _, e := range got {
			count[e]++
		}
	}
	for _, e := range []api.Errno{api.OK, api.ErrRange, api.ErrEmpty, api.ErrMany, api.ErrForm, api.ErrLost} {
		if count[e] < 100 {
			t.Errorf("too few of one kind: %v", count)
		}
	}
}

// trueForm returns the error of a string that may be empty, and of which each byte is one of
// some.
func trueForm(text, bytes string) api.Errno {
	if len(text) > 64 {
		return api.ErrMany
	}
	for i := range len(text) {
		if strings.IndexByte(bytes, text[i]) < 0 {
			return api.ErrForm
		}
	}
	return api.OK
}

// trueErrors returns the errors of all functions by the promises, in the order of errors.
func (q question) trueErrors() []api.Errno {
	within := func(n, most int) api.Errno {
		if n < 1 || n > most {
			return api.ErrRange
		}
		return api.OK
	}
	rim := trueForm(q.rim, "01")
	if q.rim == "" {
		rim = api.ErrEmpty
	}
	tells, where := rim, rim
	if rim == api.OK && !isOwn(q.rim) {
		tells = api.ErrLost
	}
	if rim == api.OK {
		where = trueForm(q.seen, "01?")
	}
	if rim == api.OK && q.seen == "" {
		where = api.ErrEmpty
	}
	return []api.Errno{rim, rim, trueForm(q.row, "01"), tells, where, within(q.length, 6), within(q.order, 6), within(q.marks, 40)}
}
