package logbook_test

import (
	"math"
	"reflect"
	"slices"
	"strings"
	"testing"

	"agonic/api"
	"agonic/logbook"
)

// P14.8, R3: books that are nil, or that no function returned, whatever the arguments are.
func TestInvalid(t *testing.T) {
	told := *book(t, example()...)
	var none *logbook.Book
	for i, b := range []*logbook.Book{none, {}, new(logbook.Book), &told} {
		for _, word := range texts("ada", "", "Ada", "undo", "undo\n", "new ada", strings.Repeat("x", 20000)) {
			done, run := b.Run(word)
			parts, c := b.Parts(word)
			card, d := b.Card(word)
			file, f := b.CardFile(word)
			for j, e := range []api.Errno{b.Do(word), run, c, d, f} {
				if e != api.ErrNil {
					t.Errorf("book %d, %.9q, %d: %d", i, word, j, e)
				}
			}
			if done != 0 || parts != [4]int{} || len(card) != 0 || file != "" {
				t.Errorf("book %d, %.9q: %d %v %v %q", i, word, done, parts, card, file)
			}
		}
		for _, serial := range list(-1, 0, 1, 99) {
			holder, e := b.Holder(serial, serial)
			home, f := b.Home(serial)
			if e != api.ErrNil || f != api.ErrNil || holder+home != "" {
				t.Errorf("book %d, %d: %q %d, %q %d", i, serial, holder, e, home, f)
			}
		}
		if n := len(b.Lines()) + len(b.Compasses()) + len(b.Restore()) + b.Distance() + len(b.File()); n != 0 {
			t.Errorf("book %d has something", i)
		}
	}
}

// R2, P14.2: errors leave a book as it is, but for the lines before the one of Run.
func TestErrorsChangeNothing(t *testing.T) {
	d := dice{21}
	bad := texts(" ", "what", "new", "new A", "new ada", "swap ada ada cap", "swap ada zoe cap", "mend zoe cap", "mend ada lid", "card ada 8 0", "card zoe 0 0", "card ada 0 x", "undo it", strings.Repeat("x", 61))
	for range 200 {
		b, k := d.told(25)
		if e := b.Do("new ada"); e == api.OK {
			k.do("new ada")
		}
		before := ask(b)
		for _, line := range bad {
			if k.errorOf(line) == api.OK {
				continue
			}
			e := b.Do(line)
			n, f := b.Run(line + "\nundo\n")
			m, g := b.Run("undo\n" + line)
			if want := k.errorOf(line); e != want || f != want || n != 0 || m != 0 || g != api.ErrTorn {
				t.Fatalf("%q after %q: %d, %d %d, %d %d, want %d", line, k.kept, e, n, f, m, g, want)
			}
		}
		if after := ask(b); !reflect.DeepEqual(after, before) {
			t.Fatalf("%q: errors change\n%v to\n%v", k.kept, before, after)
		}
	}
}

// R4: lists that are changed after a call do not change books, nor other results.
func TestMemory(t *testing.T) {
	d := dice{22}
	for range 200 {
		b, k := d.told(30)
		file := b.File()
		again := must(logbook.Read(file))
		want := ask(b)
		for _, l := range [][]string{b.Lines(), b.Compasses(), b.Restore()} {
			l = l[:cap(l)]
			for i := range l {
				l[i] = "other"
			}
		}
		for _, name := range b.Compasses() {
			_, read, _ := logbook.ReadCard(must(b.CardFile(name)))
			for _, l := range [][]logbook.Entry{must(b.Card(name)), read} {
				l = l[:cap(l)]
				for i := range l {
					l[i] = logbook.Entry{Heading: 77, Deviation: 77}
				}
			}
		}
		if got := ask(b); !reflect.DeepEqual(got, want) {
			t.Fatalf("%q: results share memory:\n%v, before\n%v", k.kept, got, want)
		}
		lines := b.Lines()
		for range 3 {
			again.Do("undo")
			again.Do(d.line(9))
		}
		if got := ask(b); !reflect.DeepEqual(got, want) || !slices.Equal(lines, k.kept) {
			t.Fatalf("%q: books share memory:\n%v, before\n%v", k.kept, got, want)
		}
	}
}

// R4: two books are told lines in turn, and each has only its own.
func TestTwoBooks(t *testing.T) {
	d := dice{23}
	for range 50 {
		one, other, k, l := logbook.New(), logbook.New(), desk{}, desk{}
		for range 40 {
			a, b := d.line(4), d.line(4)
			if one.Do(a) == api.OK {
				k.do(a)
			}
			if other.Do(b) == api.OK {
				l.do(b)
			}
		}
		if got, want := ask(one), k.answers(one.Restore()); !reflect.DeepEqual(got, want) {
			t.Fatalf("%q:\n%v, want\n%v", k.kept, got, want)
		}
		if got, want := ask(other), l.answers(other.Restore()); !reflect.DeepEqual(got, want) {
			t.Fatalf("%q:\n%v, want\n%v", l.kept, got, want)
		}
	}
}

// P1: all functions terminate without a panic, for texts and numbers of all kinds, and equal
// arguments yield equal results, with the errors of the promises.
func TestAnyArguments(t *testing.T) {
	d := dice{24}
	count := map[api.Errno]int{}
	number := func() int {
		return []int{math.MinInt, math.MaxInt, -1, 0, 1, 2, 5, 9, 13, 40, 200, 201, 1 << 32, 1 << 50}[d.roll(0, 13)]
	}
	for range 2000 {
		b, k := d.told(20)
		line := d.line(9)
		for range d.roll(0, 2) {
			line = d.spoiled(line)
		}
		if d.roll(0, 9) == 0 {
			line = strings.Repeat(line, d.roll(1, 9))
		}
		want := k.errorOf(line)
		c := book(t, k.kept...)
		if e, f := b.Do(line), c.Do(line); e != want || f != want {
			t.Fatalf("%q after %q: %d, %d, want %d", line, k.kept, e, f, want)
		}
		if want == api.OK {
			k.do(line)
		}
		count[want]++
		long := d.spoiled(text(d.line(9), d.line(9), line))
		done, e := k.errorOfText(long)
		if n, f := b.Run(long); n != done || f != e {
			t.Fatalf("Run of %q after %q: %d %d, want %d %d", long, k.kept, n, f, done, e)
		}
		c.Run(long)
		serial, after := number(), number()
		holder, _ := b.Holder(serial, after)
		if name, e := c.Holder(serial, after); name != holder || (e == api.ErrRange) != (after < 0 || after > len(k.kept)) {
			t.Fatalf("Holder of %d after %d: %q %q %d", serial, after, holder, name, e)
		}
		home, _ := b.Home(serial)
		if name, e := c.Home(serial); name != home || (e == api.OK) != (serial > 0 && serial <= len(k.now().homes)) {
			t.Fatalf("Home of %d: %q %q %d", serial, home, name, e)
		}
		if one, other := ask(b), ask(c); !reflect.DeepEqual(one, other) || !slices.Equal(one.lines, k.kept) {
			t.Fatalf("different books:\n%v\n%v", one, other)
		}
		_, f := logbook.Read(long)
		_, _, g := logbook.ReadCard(long)
		if f != errorOfFile(long) || g != errorOfCard(long) {
			t.Fatalf("%q: Read %d, ReadCard %d", long, f, g)
		}
	}
	for _, e := range []api.Errno{api.OK, api.ErrNone, api.ErrTwice, api.ErrName, api.ErrForm, api.ErrKind, api.ErrRange, api.ErrLong} {
		if count[e] < 10 {
			t.Errorf("too few of error %d: %v", e, count)
		}
	}
}
