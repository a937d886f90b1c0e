package logbook_test

import (
	"reflect"
	"slices"
	"strings"
	"testing"

	"agonic/api"
	"agonic/logbook"
)

// entries returns headings and deviations as entries.
func entries(l ...int) []logbook.Entry {
	var out []logbook.Entry
	for i := 0; i < len(l); i += 2 {
		out = append(out, logbook.Entry{Heading: l[i], Deviation: l[i+1]})
	}
	return out
}

// P14.3, P14.7: cards and their files, after lines were undone too.
func TestCards(t *testing.T) {
	b := book(t, append(example(), "card ada 3 -12", "card cy 7 300", "card ada 0 5", "card ada 3 7", "swap ada ben needle", "card ada 3 0")...)
	see := func(name, file string, want []logbook.Entry) {
		t.Helper()
		card, e := b.Card(name)
		f, g := b.CardFile(name)
		if !slices.Equal(card, want) || e != api.OK || f != file || g != api.OK {
			t.Errorf("%s: %v %d, %q %d, want %q", name, card, e, f, g, file)
		}
		again, read, h := logbook.ReadCard(file)
		if again != name || !slices.Equal(read, want) || h != api.OK {
			t.Errorf("ReadCard of %q: %q %v %d", file, again, read, h)
		}
	}
	see("ada", "ada\n0 5\n3 0\n", entries(0, 5, 3, 0))
	see("ben", "ben\n", nil)
	see("cy", "cy\n7 300\n", entries(7, 300))
	for _, file := range texts("ada\n0 5\n3 7\n", "ada\n0 5\n3 7\n", "ada\n0 5\n3 -12\n", "ada\n3 -12\n", "ada\n3 -12\n", "ada\n") {
		if e := b.Do("undo"); e != api.OK {
			t.Errorf("undo: %d", e)
		}
		if f, e := b.CardFile("ada"); f != file || e != api.OK {
			t.Errorf("CardFile of ada: %q %d, want %q", f, e, file)
		}
	}
	see("ada", "ada\n", nil)
	see("cy", "cy\n", nil)
	for heading := 7; heading >= 0; heading-- {
		b.Do("card ben " + string(rune('0'+heading)) + " -300")
	}
	see("ben", "ben\n0 -300\n1 -300\n2 -300\n3 -300\n4 -300\n5 -300\n6 -300\n7 -300\n", entries(0, -300, 1, -300, 2, -300, 3, -300, 4, -300, 5, -300, 6, -300, 7, -300))
}

// P14.7: card files with errors, the first one of each.
func TestReadCard(t *testing.T) {
	for _, x := range []struct {
		file string
		e    api.Errno
	}{
		{"a\n", api.OK}, {"abcdef\n7 0\n", api.OK}, {"ada\n0 300\n7 -300\n", api.OK},
		{strings.Repeat("x", 16001), api.ErrLong}, {strings.Repeat("\n", 16001), api.ErrLong}, {"ada\n" + strings.Repeat("\n", 15997), api.ErrLong},
		{"", api.ErrTorn}, {"ada", api.ErrTorn}, {"ada\n0 5", api.ErrTorn}, {"Ada\nx", api.ErrTorn}, {"ada\n ", api.ErrTorn}, {strings.Repeat("x", 16000), api.ErrTorn},
		{"\n", api.ErrName}, {"Ada\n", api.ErrName}, {"ada \n", api.ErrName}, {" ada\n", api.ErrName}, {"abcdefg\n", api.ErrName}, {"ada\r\n", api.ErrName}, {"\nada\n", api.ErrName}, {"ada 0\n", api.ErrName}, {"ädä\n", api.ErrName}, {strings.Repeat("\n", 16000), api.ErrName}, {strings.Repeat("a", 15999) + "\n", api.ErrName}, {"A\nx\n", api.ErrName},
		{"ada\n\n", api.ErrForm}, {"ada\n0\n", api.ErrForm}, {"ada\n0 \n", api.ErrForm}, {"ada\n 5\n", api.ErrForm}, {"ada\n0 5 5\n", api.ErrForm}, {"ada\n0  5\n", api.ErrForm}, {"ada\n0 5 \n", api.ErrForm}, {"ada\n 0 5\n", api.ErrForm}, {"ada\n0\t5\n", api.ErrForm}, {"ada\n0 5\r\n", api.ErrForm},
		{"ada\n00 5\n", api.ErrForm}, {"ada\n-0 5\n", api.ErrForm}, {"ada\n0 -0\n", api.ErrForm}, {"ada\n0 +5\n", api.ErrForm}, {"ada\n0 05\n", api.ErrForm}, {"ada\n0 -\n", api.ErrForm}, {"ada\n0 5.0\n", api.ErrForm}, {"ada\n0 x\n", api.ErrForm}, {"ada\nx 0\n", api.ErrForm}, {"ada\n8 x\n", api.ErrForm}, {"ada\nx 301\n", api.ErrForm}, {"ada\n0 ٣\n", api.ErrForm},
		{"ada\n8 5\n", api.ErrRange}, {"ada\n-1 5\n", api.ErrRange}, {"ada\n0 301\n", api.ErrRange}, {"ada\n0 -301\n", api.ErrRange}, {"ada\n18446744073709551616 0\n", api.ErrRange}, {"ada\n0 " + strings.Repeat("9", 100) + "\n", api.ErrRange}, {"ada\n3 5\n2 301\n", api.ErrRange}, {"ada\n3 5\n-3 5\n", api.ErrRange},
		{"ada\n3 5\n3 6\n", api.ErrOrder}, {"ada\n3 5\n2 6\n", api.ErrOrder}, {"ada\n3 5\n0 0\n", api.ErrOrder}, {"ada\n0 0\n0 0\n", api.ErrOrder}, {"ada\n0 0\n7 0\n6 0\n", api.ErrOrder},
		{"ada\n3 5\n2 6\nx\n", api.ErrOrder}, {"ada\n3 5\n8 0\nx\n", api.ErrRange}, {"ada\n3 5\nx\n8 0\n", api.ErrForm}, {"ada\n3 5\n5 x\n5 5\n", api.ErrForm}, {"ada\nada\n", api.ErrForm},
	} {
		name, card, e := logbook.ReadCard(x.file)
		if e != x.e || e != api.OK && (name != "" || len(card) != 0) {
			t.Errorf("ReadCard of %.40q: %q %v %d, want %d", x.file, name, card, e, x.e)
		}
		if want := errorOfCard(x.file); want != x.e {
			t.Errorf("%.40q: %d or %d?", x.file, x.e, want)
		}
	}
}

// P14.6: files of books, and books of files, which can be told more.
func TestFiles(t *testing.T) {
	lines := append(example(), "card cy 4 -7")
	b := book(t, append(slices.Clone(lines), "mend cy cap", "undo")...)
	want := "compasses 7\nnew ada\nnew ben\nnew cy\nswap ada ben bowl\nswap ben cy bowl\nmend ben cap\ncard cy 4 -7\nsum "
	f := b.File()
	if f != file(lines...) || !strings.HasPrefix(f, want) {
		t.Errorf("File: %q", f)
	}
	c, e := logbook.Read(f)
	if e != api.OK || c.File() != f || !reflect.DeepEqual(ask(b), ask(c)) {
		t.Fatalf("Read: %d", e)
	}
	if c.Do("undo") != api.OK || c.Do("mend ben cap") != api.OK || must(c.Parts("ben")) != [4]int{9, 14, 7, 8} || len(c.Lines()) != 7 {
		t.Errorf("a book that was read: %q", c.Lines())
	}
	if n, e := c.Run("new dan\nswap dan ada cap\n"); n != 2 || e != api.OK || c.Distance() != 3 {
		t.Errorf("a book that was read: Run %d %d, Distance %d", n, e, c.Distance())
	}
}

// P14.6, Limits: the longest file.
func TestLongestFile(t *testing.T) {
	lines := append(texts("new abcdef", "new ghijkl"), slices.Repeat(texts("swap abcdef ghijkl needle"), 198)...)
	f := book(t, lines...).File()
	b, e := logbook.Read(f)
	if f != file(lines...) || e != api.OK || !slices.Equal(b.Lines(), lines) {
		t.Errorf("Read of the longest file: %d", e)
	}
	if e := b.Do("mend abcdef cap"); e != api.ErrFull {
		t.Errorf("more than the longest file: %d", e)
	}
	if _, e := logbook.Read(file(append(lines, "undo")...)); e != api.ErrOrder {
		t.Errorf("undo after 200 lines: %d", e)
	}
	if _, e := logbook.Read(file(append(lines, "mend abcdef cap")...)); e != api.ErrFull {
		t.Errorf("a file of 201 lines: %d", e)
	}
	if _, e := logbook.Read(file(append(lines, "mend cy cap")...)); e != api.ErrNone {
		t.Errorf("a file of 201 lines, the last one with another error: %d", e)
	}
}

// P14.6: files with errors, the first one of each.
func TestRead(t *testing.T) {
	const empty = "compasses 0\nsum 3356\n"
	one := file("new ada")
	for _, x := range []struct {
		file string
		e    api.Errno
	}{
		{empty, api.OK}, {one, api.OK}, {file("new undo", "mend undo cap"), api.OK},
		{strings.Repeat("x", 16001), api.ErrLong}, {strings.Repeat("\n", 16001), api.ErrLong}, {summed("compasses 1\n" + strings.Repeat("x", 16000) + "\n"), api.ErrLong},
		{"", api.ErrTorn}, {"compasses 0\nsum 3356", api.ErrTorn}, {"compasses 0", api.ErrTorn}, {"x", api.ErrTorn}, {empty + " ", api.ErrTorn}, {one[:len(one)-1], api.ErrTorn}, {"compasses 0\nsum 3356\r", api.ErrTorn},
		{"\n", api.ErrForm}, {"\n\n", api.ErrForm}, {"\n\n\n", api.ErrForm}, {"compasses 0\n", api.ErrForm}, {"sum 3356\n", api.ErrForm}, {"compasses 0\n\n", api.ErrForm}, {strings.Repeat("\n", 16000), api.ErrForm}, {"compasses -1\n", api.ErrForm}, {"compasses -1\nsum 0\n", api.ErrForm},
		{"compasses 1\nsum 3356\n", api.ErrForm}, {"compasses -0\nsum 3356\n", api.ErrForm}, {"compasses 00\nsum 3356\n", api.ErrForm}, {"compasses +0\nsum 3356\n", api.ErrForm}, {"compasses\nsum 3356\n", api.ErrForm}, {"compasses \nsum 3356\n", api.ErrForm}, {"compasses  0\nsum 3356\n", api.ErrForm}, {"Compasses 0\nsum 3356\n", api.ErrForm}, {"compasses 0 \nsum 3356\n", api.ErrForm}, {"compass 0\nsum 3356\n", api.ErrForm}, {"compasses 0\r\nsum 3356\n", api.ErrForm}, {"books 0\nsum 3356\n", api.ErrForm},
		{summed("compasses 0\nnew ada\n"), api.ErrForm}, {summed("compasses 2\nnew ada\n"), api.ErrForm}, {summed("compasses 01\nnew ada\n"), api.ErrForm}, {summed("compasses 1 \nnew ada\n"), api.ErrForm}, {summed("new ada\ncompasses 1\n"), api.ErrForm}, {summed(""), api.ErrForm}, {summed("new ada\n"), api.ErrForm}, {"\n" + empty, api.ErrForm}, {empty + "\n", api.ErrForm}, {empty + empty, api.ErrForm},
		{"compasses 0\nsum 03356\n", api.ErrForm}, {"compasses 0\nsum -3356\n", api.ErrForm}, {"compasses 0\nsum +3356\n", api.ErrForm}, {"compasses 0\nsum 3356 \n", api.ErrForm}, {"compasses 0\nsum  3356\n", api.ErrForm}, {"compasses 0\n sum 3356\n", api.ErrForm}, {"compasses 0\nsum\n", api.ErrForm}, {"compasses 0\nsum \n", api.ErrForm}, {"compasses 0\nsum3356\n", api.ErrForm}, {"compasses 0\n3356\n", api.ErrForm}, {"compasses 0\ntotal 3356\n", api.ErrForm}, {"compasses 0\nSum 3356\n", api.ErrForm}, {"compasses 0\nsum 3356 3356\n", api.ErrForm},
		{"compasses 0\nsum 9973\n", api.ErrForm}, {"compasses 0\nsum 13329\n", api.ErrForm}, {"compasses 0\nsum -1\n", api.ErrForm}, {"compasses 0\nsum -0\n", api.ErrForm}, {"compasses 0\nsum 18446744073709554972\n", api.ErrForm}, {"compasses 0\nsum " + strings.Repeat("9", 100) + "\n", api.ErrForm}, {"compasses 0\nsum x\n", api.ErrForm}, {"compasses 0\nsum ada\n", api.ErrForm},
		{"compasses 0\nsum 3357\n", api.ErrSum}, {"compasses 0\nsum 0\n", api.ErrSum}, {"compasses 0\nsum 9972\n", api.ErrSum}, {strings.Replace(one, "ada", "adb", 1), api.ErrSum}, {strings.Replace(file("new ada", "undo"), "undo", "undp", 1), api.ErrSum}, {strings.Replace(file("what"), "what", "thaw", 1), api.ErrSum},
		{file("undo"), api.ErrOrder}, {file("new ada", "undo"), api.ErrOrder}, {file("new ada", "undo", "new ada", "what"), api.ErrOrder}, {file("undo", ""), api.ErrOrder},
		{file(""), api.ErrForm}, {file(" undo"), api.ErrForm}, {file("undo it"), api.ErrForm}, {file("new ada", ""), api.ErrForm}, {file("new ada\r"), api.ErrForm}, {file("what", "undo"), api.ErrKind}, {file("new A", "what"), api.ErrName}, {file("new ada", "new ada"), api.ErrTwice}, {file(news(9)...), api.ErrMany}, {file("mend ada cap", "undo"), api.ErrNone}, {file("new ada", "card ada 8 0"), api.ErrRange}, {file("new ada", "card ada 0 -0"), api.ErrForm}, {file(strings.Repeat("x", 61)), api.ErrLong}, {file("new ada", "mend ada lid", "undo"), api.ErrKind}, {file("new ada", "compasses 1"), api.ErrKind},
	} {
		b, e := logbook.Read(x.file)
		if e != x.e || (b == nil) != (x.e != api.OK) {
			t.Errorf("Read of %.40q: %d, want %d", x.file, e, x.e)
		}
		if b != nil && b.File() != x.file {
			t.Errorf("Read of %.40q: a book with the file %q", x.file, b.File())
		}
		if want := errorOfFile(x.file); want != x.e {
			t.Errorf("%.40q: %d or %d?", x.file, x.e, want)
		}
	}
}
