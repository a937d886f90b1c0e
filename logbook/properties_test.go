package logbook_test

import (
	"fmt"
	"reflect"
	"slices"
	"strings"
	"testing"

	"agonic/api"
	"agonic/logbook"
)

// P14.1, P14.3 to P14.7, G2, G3: all that books return is what follows from their kept lines.
func TestTrueBooks(t *testing.T) {
	d := dice{1}
	most := 0
	for i := range 400 {
		b, k := d.told(list(4, 15, 40, 90)[i%4])
		if got, want := ask(b), k.answers(b.Restore()); !reflect.DeepEqual(got, want) {
			t.Fatalf("%q:\n%v, want\n%v", k.kept, got, want)
		}
		most = max(most, len(k.kept))
	}
	if most < 30 {
		t.Errorf("at most %d kept lines", most)
	}
}

// P14.1, P14.2: lines and texts, with errors and without, are done just as the promises say.
func TestTrueLines(t *testing.T) {
	d := dice{2}
	count := map[api.Errno]int{}
	for range 150 {
		b, k, few := logbook.New(), desk{}, d.roll(1, 9)
		for range d.roll(1, 60) {
			line := d.line(few)
			want := k.errorOf(line)
			if e := b.Do(line); e != want {
				t.Fatalf("%q after %q: %d, want %d", line, k.kept, e, want)
			}
			if want == api.OK {
				k.do(line)
			}
			count[want]++
		}
		before := k
		lines := texts(d.line(few), d.line(few), d.line(few))
		done, e := k.errorOfText(text(lines...))
		if n, f := b.Run(text(lines...)); n != done || f != e || !slices.Equal(b.Lines(), k.kept) {
			t.Fatalf("Run of %q after %q: %d %d, want %d %d", lines, before.kept, n, f, done, e)
		}
	}
	for _, e := range []api.Errno{api.OK, api.ErrEmpty, api.ErrNone, api.ErrTwice} {
		if count[e] < 20 {
			t.Errorf("too few of one kind: %v", count)
		}
	}
}

// P14.9, G6, G8: a book that is told the kept lines, one by one, as a text, or from the file,
// is the same book.
func TestKept(t *testing.T) {
	d := dice{3}
	for i := range 200 {
		b, k := d.told(list(5, 20, 60, 250)[i%4])
		want := ask(b)
		one, all := book(t, b.Lines()...), logbook.New()
		if n, e := all.Run(text(k.kept...)); n != len(k.kept) || e != api.OK {
			t.Fatalf("Run of %q: %d %d", k.kept, n, e)
		}
		for _, other := range []*logbook.Book{one, all, must(logbook.Read(b.File()))} {
			if got := ask(other); !reflect.DeepEqual(got, want) {
				t.Fatalf("%q:\n%v, want\n%v", k.kept, got, want)
			}
		}
	}
}

// P14.9, G6: a line that is done and undone leaves no trace, now or in what is told later.
func TestUndone(t *testing.T) {
	d := dice{4}
	count := map[string]int{}
	for range 300 {
		b, k := d.told(30)
		want := ask(b)
		var done []string
		few := min(9, len(b.Compasses())+1)
		for range d.roll(1, 6) {
			line := d.line(few)
			if line != "undo" && b.Do(line) == api.OK {
				done = append(done, line)
				count[line[:3]]++
			}
		}
		for range done {
			if e := b.Do("undo"); e != api.OK {
				t.Fatalf("undo: %d", e)
			}
		}
		if got := ask(b); !reflect.DeepEqual(got, want) {
			t.Fatalf("%q, and %q undone:\n%v, want\n%v", k.kept, done, got, want)
		}
		for range 5 {
			line := d.line(few)
			if b.Do(line) == api.OK {
				k.do(line)
			}
		}
		if got, want := ask(b), k.answers(b.Restore()); !reflect.DeepEqual(got, want) {
			t.Fatalf("%q, after %q was undone:\n%v, want\n%v", k.kept, done, got, want)
		}
	}
	if len(count) != 4 || min(count["new"], count["swa"], count["car"], count["men"]) < 50 {
		t.Errorf("too few of one kind: %v", count)
	}
}

// P14.9: a whole book is undone line by line, and each time is what it was.
func TestBackToTheStart(t *testing.T) {
	d := dice{5}
	for range 20 {
		b, few := logbook.New(), d.roll(2, 9)
		before := []answers{ask(b)}
		for range 40 {
			line := d.line(few)
			if line != "undo" && b.Do(line) == api.OK {
				before = append(before, ask(b))
			}
		}
		for i := len(before) - 1; i > 0; i-- {
			if got := ask(b); !reflect.DeepEqual(got, before[i]) {
				t.Fatalf("back to %d lines:\n%v, want\n%v", i, got, before[i])
			}
			b.Do("undo")
		}
		if e := b.Do("undo"); e != api.ErrEmpty || b.File() != "compasses 0\nsum 3356\n" {
			t.Fatalf("undo at the start: %d, %q", e, b.File())
		}
	}
}

// P14.10, G2: after each kept line each part is in one compass, unless it was replaced, and each
// compass is for each kind the home of one part.
func TestPartsOnce(t *testing.T) {
	d := dice{6}
	for range 150 {
		b, k := d.told(80)
		for after := range len(k.kept) + 1 {
			then, held, replaced := k.after(after), 0, 0
			for serial := range then.homes {
				switch name, e := b.Holder(serial+1, after); e {
				case api.OK:
					held++
					if !slices.Contains(then.names, name) {
						t.Fatalf("%d is in %q", serial+1, name)
					}
				case api.ErrLost:
					replaced++
				}
			}
			mends := 0
			for _, line := range k.kept[:after] {
				if strings.HasPrefix(line, "mend ") {
					mends++
				}
			}
			if held != 4*len(then.names) || replaced != mends {
				t.Fatalf("%q: %d parts held and %d replaced", k.kept[:after], held, replaced)
			}
		}
		var serials []int
		homes := map[string]int{}
		for _, name := range b.Compasses() {
			for kind, serial := range must(b.Parts(name)) {
				serials = append(serials, serial)
				homes[fmt.Sprint(must(b.Home(serial)), kind)]++
				if holder := must(b.Holder(serial, len(k.kept))); holder != name {
					t.Fatalf("%d is in %s and %s", serial, name, holder)
				}
			}
		}
		slices.Sort(serials)
		if n := 4 * len(b.Compasses()); len(slices.Compact(serials)) != n || len(homes) != n {
			t.Fatalf("%q: serials %v, homes %v", k.kept, serials, homes)
		}
	}
}

// state is which parts are in which compasses.
func state(b *logbook.Book) string {
	out := ""
	for _, name := range b.Compasses() {
		out += fmt.Sprint(must(b.Parts(name)))
	}
	return out
}

// P14.5, P14.11, G4: from books where all parts are at home, as few swaps lead to each other
// book as its distance says. All books are found that so many compasses can have, the nearer
// ones first; swaps lead back the way they came.
func TestFewest(t *testing.T) {
	for _, x := range []struct {
		compasses int
		kinds     []string
		states    int
	}{{1, kinds(), 1}, {2, kinds(), 16}, {3, kinds()[:3], 216}, {4, kinds()[1:3], 576}, {5, kinds()[3:], 120}, {6, kinds()[:1], 720}} {
		var swaps []string
		for i, one := range crew()[:x.compasses] {
			for _, other := range crew()[i+1 : x.compasses] {
				for _, kind := range x.kinds {
					swaps = append(swaps, "swap "+one+" "+other+" "+kind)
				}
			}
		}
		paths := [][]string{append(news(x.compasses), "mend ada "+x.kinds[0], "card ada 1 1")}
		start := len(paths[0])
		seen := map[string]bool{state(book(t, paths[0]...)): true}
		for next := 0; next < len(paths); next++ {
			b := book(t, paths[next]...)
			restore := b.Restore()
			if n := b.Distance(); n != len(paths[next])-start || n != len(restore) {
				t.Fatalf("%q: distance %d, Restore %q", paths[next], n, restore)
			}
			for _, line := range swaps {
				if e := b.Do(line); e != api.OK {
					t.Fatalf("%q: %d", line, e)
				}
				if s := state(b); !seen[s] {
					seen[s] = true
					paths = append(paths, append(slices.Clone(paths[next]), line))
				}
				b.Do("undo")
			}
			if n, e := b.Run(text(restore...)); n != len(restore) || e != api.OK || b.Distance() != 0 {
				t.Fatalf("%q: Restore %q, of which %d are done, leaves %d", paths[next], restore, n, b.Distance())
			}
		}
		if len(seen) != x.states {
			t.Errorf("%d compasses: %d books, want %d", x.compasses, len(seen), x.states)
		}
	}
}

// P14.5, P14.11: in large books Restore brings all parts home, each swap one step nearer.
func TestRestore(t *testing.T) {
	d := dice{7}
	greatest := 0
	for range 300 {
		k := desk{news(d.roll(1, 8))}
		for range d.roll(0, 150) {
			if line := d.line(8); !strings.HasPrefix(line, "undo") && k.errorOf(line) == api.OK {
				k.do(line)
			}
		}
		b := book(t, k.kept...)
		restore, n := b.Restore(), b.Distance()
		if want := k.now().distance(); n != want || len(restore) != n {
			t.Fatalf("%q: Distance %d, Restore %q, want %d", k.kept, n, restore, want)
		}
		greatest = max(greatest, n)
		for _, line := range restore {
			e := b.Do(line)
			if n--; e != api.OK || b.Distance() != n {
				t.Fatalf("%q: %q of %q: %d, Distance %d, want %d", k.kept, line, restore, e, b.Distance(), n)
			}
		}
		for _, name := range b.Compasses() {
			for _, serial := range must(b.Parts(name)) {
				if home := must(b.Home(serial)); home != name {
					t.Fatalf("%q: after %q the part %d of %s is in %s", k.kept, restore, serial, home, name)
				}
			}
		}
	}
	if greatest < 15 {
		t.Errorf("the greatest distance was %d", greatest)
	}
}

// P14.12, G5, G6: a swap changes the distance by 1; two equal ones restore all parts; swaps of
// different kinds, or of four compasses, can be told in either order, and the compasses of one
// too.
func TestSwaps(t *testing.T) {
	d := dice{8}
	for range 300 {
		k := desk{append(news(8), "mend cy bowl")}
		for range d.roll(0, 30) {
			if line := d.line(8); k.errorOf(line) == api.OK && !strings.HasPrefix(line, "undo") {
				k.do(line)
			}
		}
		names := crew()[:8]
		for i := range names {
			j := d.roll(i, 7)
			names[i], names[j] = names[j], names[i]
		}
		kind := d.of(kinds())
		one, back := "swap "+names[0]+" "+names[1]+" "+kind, "swap "+names[1]+" "+names[0]+" "+kind
		before := book(t, k.kept...)
		after := book(t, append(slices.Clone(k.kept), one)...)
		if n := after.Distance() - before.Distance(); n != 1 && n != -1 {
			t.Fatalf("%q: %q changes the distance by %d", k.kept, one, n)
		}
		for _, again := range texts(one, back) {
			if s := state(book(t, append(slices.Clone(k.kept), one, again)...)); s != state(before) {
				t.Fatalf("%q: %q and %q: %s, before %s", k.kept, one, again, s, state(before))
			}
		}
		other := "swap " + names[2] + " " + names[3] + " " + d.of(kinds())
		if d.roll(0, 1) == 0 {
			apart := slices.DeleteFunc(kinds(), func(other string) bool { return other == kind })
			other = "swap " + names[d.roll(0, 1)] + " " + names[2] + " " + d.of(apart)
		}
		there, here := book(t, append(slices.Clone(k.kept), one, other)...), book(t, append(slices.Clone(k.kept), other, back)...)
		if state(there) != state(here) || there.Distance() != here.Distance() {
			t.Fatalf("%q: %q and %q in another order", k.kept, one, other)
		}
	}
}

// P14.13, G6, G8: Read accepts files of books, and gives back their kept lines; ReadCard gives
// back names and cards.
func TestReadBack(t *testing.T) {
	d := dice{9}
	for range 300 {
		b, k := d.told(250)
		again, e := logbook.Read(b.File())
		if e != api.OK || !slices.Equal(again.Lines(), k.kept) || again.File() != b.File() {
			t.Fatalf("Read of the file of %q: %d", k.kept, e)
		}
		for _, name := range b.Compasses() {
			other, card, e := logbook.ReadCard(must(b.CardFile(name)))
			if other != name || !slices.Equal(card, must(b.Card(name))) || e != api.OK {
				t.Fatalf("ReadCard of the card of %s after %q: %q %v %d", name, k.kept, other, card, e)
			}
		}
	}
}

// spoiled returns a text with a byte, a word or a line that is exchanged, more, or missing.
func (d *dice) spoiled(text string) string {
	by := d.of([]string{" ", "\n", "-", "0", "1", "8", "9", "a", "z", "A", "~", "\x00", "\x7f", "\xff", "é", "+", "undo", "undo\n", "new ada\n", "ada", "ben", "cap", "lid", " 0", "\n\n", "301", "999999999999999999999"})
	at := d.roll(0, len(text))
	end := min(at+d.roll(0, 1)*d.roll(1, 8), len(text))
	if d.roll(0, 2) == 0 {
		by = ""
	}
	if d.roll(0, 3) == 0 { // whole lines
		lines := strings.SplitAfter(text, "\n")
		i, j := d.roll(0, len(lines)-1), d.roll(0, len(lines)-1)
		lines[i], lines[j] = lines[j], lines[i]
		return strings.Join(lines, "")
	}
	return text[:at] + by + text[end:]
}

// P14.6, P14.13: of files that are spoiled, some with the checksum made anew, Read accepts
// only those that are files of books, and returns the error that the promise states.
func TestSpoiledFiles(t *testing.T) {
	d := dice{10}
	count := map[api.Errno]int{}
	for range 5000 {
		b, _ := d.told(14)
		lines := b.Lines()
		f := d.spoiled(file(lines...))
		switch d.roll(0, 3) {
		case 0:
			at := d.roll(0, len(lines))
			f = file(slices.Insert(lines, at, d.spoiled(d.line(9)))...)
		case 1:
			before, _, _ := strings.Cut(f, "sum ")
			f = summed(before)
		case 2:
			f = file(strings.Split(d.spoiled(strings.Join(lines, "\n")), "\n")...)
		}
		want := errorOfFile(f)
		again, e := logbook.Read(f)
		if e != want || (again == nil) != (e != api.OK) {
			t.Fatalf("Read of %q: %d, want %d", f, e, want)
		}
		if e == api.OK && again.File() != f {
			t.Fatalf("Read of %q: a book with the file %q", f, again.File())
		}
		count[e]++
	}
	for _, e := range []api.Errno{api.OK, api.ErrOrder, api.ErrNone, api.ErrTwice, api.ErrName, api.ErrForm, api.ErrKind, api.ErrSum, api.ErrTorn, api.ErrRange} {
		if count[e] < 10 {
			t.Errorf("too few of error %d: %v", e, count)
		}
	}
}

// P14.7, P14.13: of card files that are spoiled, ReadCard accepts only those that are card
// files, and returns the error that the promise states.
func TestSpoiledCards(t *testing.T) {
	d := dice{11}
	count := map[api.Errno]int{}
	for range 5000 {
		b := book(t, "new ada")
		for range d.roll(0, 10) {
			line := d.line(1)
			if strings.HasPrefix(line, "card ") {
				b.Do(line)
			}
		}
		f := d.spoiled(must(b.CardFile("ada")))
		want := errorOfCard(f)
		name, card, e := logbook.ReadCard(f)
		if e != want || e != api.OK && (name != "" || len(card) != 0) {
			t.Fatalf("ReadCard of %q: %q %v %d, want %d", f, name, card, e, want)
		}
		if e == api.OK {
			again := book(t, "new "+name)
			for _, entry := range card {
				again.Do(fmt.Sprintf("card %s %d %d", name, entry.Heading, entry.Deviation))
			}
			if must(again.CardFile(name)) != f {
				t.Fatalf("ReadCard of %q: %q %v", f, name, card)
			}
		}
		count[e]++
	}
	for _, e := range []api.Errno{api.OK, api.ErrRange, api.ErrOrder, api.ErrName, api.ErrForm, api.ErrTorn} {
		if count[e] < 10 {
			t.Errorf("too few of error %d: %v", e, count)
		}
	}
}
