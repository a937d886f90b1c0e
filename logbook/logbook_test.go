package logbook_test

import (
	"math"
	"slices"
	"strings"
	"testing"

	"agonic/api"
	"agonic/logbook"
)

// Types, Limits: the chapter's limits.
func TestLimits(t *testing.T) {
	got := list(logbook.MaxLine, logbook.MaxLines, logbook.MaxCompasses, logbook.Kinds, logbook.Headings, logbook.MaxDeviation)
	if !slices.Equal(got, list(60, 200, 8, 4, 8, 300)) {
		t.Errorf("limits %v", got)
	}
}

// Examples: the first rows of the chapter's table.
func TestExampleOfParts(t *testing.T) {
	b := book(t, example()...)
	for name, want := range map[string][4]int{"ada": {5, 2, 3, 4}, "ben": {9, 13, 7, 8}, "cy": {1, 10, 11, 12}} {
		if p, e := b.Parts(name); p != want || e != api.OK {
			t.Errorf("Parts of %s: %v %d, want %v", name, p, e, want)
		}
	}
	if n, l := b.Distance(), b.Restore(); n != 2 || len(l) != 2 {
		t.Errorf("Distance %d, Restore %q", n, l)
	}
	if e := b.Do("undo"); e != api.OK {
		t.Errorf("undo: %d", e)
	}
	if p, e := b.Parts("ben"); p != [4]int{9, 6, 7, 8} || e != api.OK || b.Distance() != 2 {
		t.Errorf("Parts of ben after undo: %v %d, Distance %d", p, e, b.Distance())
	}
}

// Examples: the last rows of the chapter's table.
func TestExampleOfFiles(t *testing.T) {
	b := book(t, append(example(), "card ada 3 -12", "card ada 0 5", "card ada 3 7")...)
	if f, e := b.CardFile("ada"); f != "ada\n0 5\n3 7\n" || e != api.OK {
		t.Errorf("CardFile: %q %d", f, e)
	}
	if f := logbook.New().File(); f != "compasses 0\nsum 3356\n" {
		t.Errorf("File: %q", f)
	}
}

// badLine is a line and its error.
type badLine struct {
	line string
	e    api.Errno
}

// check tells lines to books that were told others, and expects their errors, and kept lines
// only of those that have none.
func check(t *testing.T, before []string, lines []badLine) {
	t.Helper()
	for _, x := range lines {
		b, want := book(t, before...), desk{}
		for _, line := range before {
			want.do(line)
		}
		if e := b.Do(x.line); e != x.e {
			t.Errorf("%q after %d lines: %d, want %d", x.line, len(before), e, x.e)
		}
		if x.e == api.OK {
			want.do(x.line)
		}
		if l := b.Lines(); !slices.Equal(l, want.kept) {
			t.Errorf("%q after %d lines: kept lines %q", x.line, len(before), l)
		}
	}
}

// P14.1: too long lines, and texts that are no lines, whatever words they have.
func TestForms(t *testing.T) {
	x60 := strings.Repeat("x", 60)
	check(t, example(), []badLine{
		{x60 + "x", api.ErrLong}, {strings.Repeat(" ", 61), api.ErrLong}, {strings.Repeat("é", 31), api.ErrLong},
		{"new " + x60, api.ErrLong}, {"card ada 1 " + strings.Repeat("1", 50), api.ErrLong}, {strings.Repeat("\n", 70), api.ErrLong},
		{"", api.ErrForm}, {" ", api.ErrForm}, {"  ", api.ErrForm}, {strings.Repeat(" ", 60), api.ErrForm},
		{" undo", api.ErrForm}, {"undo ", api.ErrForm}, {"new  dan", api.ErrForm}, {"swap ada  ben cap", api.ErrForm},
		{"new\tdan", api.ErrForm}, {"undo\n", api.ErrForm}, {"\nundo", api.ErrForm}, {"undo\r", api.ErrForm}, {"new dan\x00", api.ErrForm},
		{"what\x7f", api.ErrForm}, {"what\x1f", api.ErrForm}, {"what\x80", api.ErrForm}, {"what\xff", api.ErrForm}, {"new dän", api.ErrForm},
		{"what é", api.ErrForm}, {"new\u00a0dan", api.ErrForm}, {"new\u3000dan", api.ErrForm}, {"\ufeffundo", api.ErrForm},
		{strings.Repeat("é", 30), api.ErrForm}, {"what  what", api.ErrForm}, {"new \xef\xbd\x81", api.ErrForm}, {"\xf5ndo", api.ErrForm},
	})
}

// P14.1: words that are no commands, and numbers of words.
func TestWords(t *testing.T) {
	check(t, example(), []badLine{
		{strings.Repeat("x", 60), api.ErrKind}, {"x " + strings.Repeat("~", 58), api.ErrKind}, {"!", api.ErrKind}, {"~", api.ErrKind}, {"! ~ !", api.ErrKind},
		{"New dan", api.ErrKind}, {"news dan", api.ErrKind}, {"ne dan", api.ErrKind}, {"UNDO", api.ErrKind}, {"redo", api.ErrKind}, {"ada new", api.ErrKind},
		{"bowl", api.ErrKind}, {"compasses 0", api.ErrKind}, {"sum 3356", api.ErrKind}, {"0", api.ErrKind}, {"-", api.ErrKind}, {"C", api.ErrKind},
		{"undo it", api.ErrForm}, {"undo 1", api.ErrForm}, {"undo undo", api.ErrForm}, {"new", api.ErrForm}, {"new dan eva", api.ErrForm}, {"new A B", api.ErrForm},
		{"swap", api.ErrForm}, {"swap ada", api.ErrForm}, {"swap ada ben", api.ErrForm}, {"swap ada cap", api.ErrForm}, {"swap ada ben cap cap", api.ErrForm},
		{"swap A B", api.ErrForm}, {"swap ada ada", api.ErrForm}, {"card", api.ErrForm}, {"card ada", api.ErrForm}, {"card ada 1", api.ErrForm}, {"card ada 1 1 1", api.ErrForm},
		{"card A 9", api.ErrForm}, {"mend", api.ErrForm}, {"mend ada", api.ErrForm}, {"mend ada cap cap", api.ErrForm}, {"mend A", api.ErrForm}, {"mend ada ben cap", api.ErrForm},
	})
}

// P14.1: numbers that are no decimal numbers, also beside other errors.
func TestDecimals(t *testing.T) {
	for _, word := range texts("-0", "00", "01", "-01", "+0", "+2", "1.5", "-", "--1", "1-", "-1-", "x", "1x", "x1", "0x1", "1e2", "1_0", "1,0", "/", ":", "-+1", "0-", "-00", "bowl", "007") {
		check(t, example(), []badLine{
			{"card ada " + word + " 0", api.ErrForm}, {"card ada 0 " + word, api.ErrForm}, {"card ada " + word + " " + word, api.ErrForm},
			{"card A 9 " + word, api.ErrForm}, {"card dan " + word + " 999", api.ErrForm}, {"card abcdefg 0 " + word, api.ErrForm},
		})
	}
	check(t, example(), []badLine{
		{"card ada 0 0", api.OK}, {"card ada 7 300", api.OK}, {"card ada 7 -300", api.OK}, {"card cy 1 -1", api.OK}, {"card cy 6 9", api.OK}, {"card ben 5 10", api.OK}, {"card ben 4 299", api.OK}, {"card ben 2 -100", api.OK},
	})
}

// P14.1: names, then kinds, then numbers out of range, before what the book has.
func TestBadWords(t *testing.T) {
	check(t, example(), []badLine{
		{"new Dan", api.ErrName}, {"new abcdefg", api.ErrName}, {"new a1", api.ErrName}, {"new a-b", api.ErrName}, {"new 0", api.ErrName}, {"new ADA", api.ErrName}, {"new `", api.ErrName}, {"new {", api.ErrName},
		{"swap A ben cap", api.ErrName}, {"swap ada B cap", api.ErrName}, {"swap A A lid", api.ErrName}, {"swap ada B lid", api.ErrName}, {"swap dan B lid", api.ErrName}, {"mend A cap", api.ErrName}, {"mend A lid", api.ErrName},
		{"card A 0 0", api.ErrName}, {"card A 8 0", api.ErrName}, {"card A 0 301", api.ErrName}, {"card abcdefg -1 0", api.ErrName},
		{"swap ada ben lid", api.ErrKind}, {"swap ada ben Cap", api.ErrKind}, {"swap ada ben caps", api.ErrKind}, {"swap ada ben 1", api.ErrKind}, {"swap ada ada lid", api.ErrKind}, {"swap dan ada lid", api.ErrKind}, {"swap dan dan ca", api.ErrKind},
		{"mend ada lid", api.ErrKind}, {"mend dan lid", api.ErrKind}, {"mend ada CAP", api.ErrKind}, {"mend ada ada", api.ErrKind}, {"mend ada 0", api.ErrKind},
		{"card ada 8 0", api.ErrRange}, {"card ada -1 0", api.ErrRange}, {"card ada 0 301", api.ErrRange}, {"card ada 0 -301", api.ErrRange}, {"card ada 10 0", api.ErrRange}, {"card ada 8 301", api.ErrRange}, {"card dan 8 0", api.ErrRange}, {"card dan 0 -1000", api.ErrRange},
		{"card ada 9223372036854775808 0", api.ErrRange}, {"card ada 0 -9223372036854775809", api.ErrRange}, {"card ada 18446744073709551616 0", api.ErrRange}, {"card ada 0 4294967296", api.ErrRange}, {"card ada 0 -" + strings.Repeat("9", 48), api.ErrRange}, {"card ada " + strings.Repeat("1", 40) + " 0", api.ErrRange}, {"card ada 18446744073709551615 0", api.ErrRange},
	})
}

// P14.1: what the book has or has not.
func TestBooks(t *testing.T) {
	check(t, nil, []badLine{
		{"new ada", api.OK}, {"new abcdef", api.OK}, {"new a", api.OK}, {"new undo", api.OK}, {"new cap", api.OK}, {"undo", api.ErrEmpty},
		{"swap ada ben cap", api.ErrNone}, {"swap ada ada cap", api.ErrNone}, {"card ada 0 0", api.ErrNone}, {"mend ada cap", api.ErrNone},
	})
	check(t, example(), []badLine{
		{"new dan", api.OK}, {"swap cy ada pivot", api.OK}, {"swap ada ben bowl", api.OK}, {"mend cy needle", api.OK}, {"undo", api.OK}, {"new adam", api.OK}, {"new ad", api.OK},
		{"new ada", api.ErrTwice}, {"new cy", api.ErrTwice}, {"swap ada ada cap", api.ErrTwice}, {"swap cy cy bowl", api.ErrTwice},
		{"swap ada dan cap", api.ErrNone}, {"swap dan ada cap", api.ErrNone}, {"swap dan dan cap", api.ErrNone}, {"swap dan eva cap", api.ErrNone}, {"card dan 0 0", api.ErrNone}, {"mend dan cap", api.ErrNone}, {"mend ad cap", api.ErrNone}, {"mend adam cap", api.ErrNone},
	})
	check(t, news(7), []badLine{{"new ida", api.OK}, {"new ada", api.ErrTwice}})
	check(t, news(8), []badLine{{"new ida", api.ErrMany}, {"new ada", api.ErrTwice}, {"new hal", api.ErrTwice}, {"undo", api.OK}, {"mend hal cap", api.OK}, {"new Ida", api.ErrName}})
	check(t, append(news(8), "undo"), []badLine{{"new ida", api.OK}, {"new hal", api.OK}, {"mend hal cap", api.ErrNone}, {"new gus", api.ErrTwice}})
	check(t, texts("new ada", "undo"), []badLine{{"undo", api.ErrEmpty}, {"mend ada cap", api.ErrNone}, {"new ada", api.OK}})
}

// P14.1: a book is full with 200 kept lines; then other errors still come first.
func TestFull(t *testing.T) {
	full := append(example(), slices.Repeat(texts("mend ada cap", "card ada 0 1"), 97)...)
	check(t, full[:199], []badLine{{"mend ada cap", api.OK}, {"new dan", api.OK}, {"swap ada ben cap", api.OK}, {"card ada 1 1", api.OK}, {"undo", api.OK}})
	check(t, full, []badLine{
		{"mend ada cap", api.ErrFull}, {"new dan", api.ErrFull}, {"swap ada ben cap", api.ErrFull}, {"card ada 1 1", api.ErrFull}, {"undo", api.OK},
		{"new ada", api.ErrTwice}, {"swap ada ada cap", api.ErrTwice}, {"swap ada dan cap", api.ErrNone}, {"mend dan cap", api.ErrNone}, {"card dan 0 0", api.ErrNone}, {"what", api.ErrKind}, {"new D", api.ErrName}, {"card ada 8 0", api.ErrRange},
	})
	check(t, append(news(8), slices.Repeat(texts("mend ada cap"), 192)...), []badLine{{"new ida", api.ErrMany}, {"new hal", api.ErrTwice}, {"mend ida cap", api.ErrNone}, {"mend hal cap", api.ErrFull}})
	b := book(t, full...)
	for _, x := range []badLine{{"undo", api.OK}, {"new dan", api.OK}, {"new eva", api.ErrFull}, {"undo", api.OK}, {"new eva", api.OK}} {
		if e := b.Do(x.line); e != x.e {
			t.Errorf("%q: %d, want %d", x.line, e, x.e)
		}
	}
}

// P14.2: texts, one after the other; what was done before an error stays done.
func TestRun(t *testing.T) {
	b := logbook.New()
	for _, x := range []struct {
		text  string
		done  int
		e     api.Errno
		lines int
	}{
		{"", 0, api.OK, 0},
		{"new ada\nnew ben\nswap ada cy cap\nnew cy\n", 2, api.ErrNone, 2},
		{"new cy", 0, api.ErrTorn, 2},
		{"new cy\nnew dan", 0, api.ErrTorn, 2},
		{"new cy\n\x00", 0, api.ErrTorn, 2},
		{" ", 0, api.ErrTorn, 2},
		{"\n", 0, api.ErrForm, 2},
		{"\n\n", 0, api.ErrForm, 2},
		{"new cy\r\n", 0, api.ErrForm, 2},
		{"new cy\n\nnew dan\n", 1, api.ErrForm, 3},
		{"undo\nundo\nundo\nundo\nnew eva\n", 3, api.ErrEmpty, 0},
		{"new ada\nundo\nnew ada\nmend ada cap\n", 4, api.OK, 2},
		{strings.Repeat("x", 61) + "\n", 0, api.ErrLong, 2},
		{strings.Repeat("x", 16001), 0, api.ErrLong, 2},
		{strings.Repeat("\n", 16001), 0, api.ErrLong, 2},
		{"undo\n" + strings.Repeat("x", 15996), 0, api.ErrLong, 2},
		{"undo\n" + strings.Repeat("x", 15995), 0, api.ErrTorn, 2},
		{"undo\n" + strings.Repeat("x", 15994) + "\n", 1, api.ErrLong, 1},
		{strings.Repeat("mend ada cap\nundo\n", 888) + "mend ada needle\n", 1777, api.OK, 2},
		{strings.Repeat("mend ada cap\n", 199), 198, api.ErrFull, 200},
	} {
		if n, e := b.Run(x.text); n != x.done || e != x.e {
			t.Errorf("Run of %.40q: %d %d, want %d %d", x.text, n, e, x.done, x.e)
		}
		if l := b.Lines(); len(l) != x.lines {
			t.Errorf("Run of %.40q: kept lines %q", x.text, l)
		}
	}
	if got, want := len(strings.Repeat("mend ada cap\nundo\n", 888)+"mend ada needle\n"), 16000; got != want {
		t.Errorf("the longest text has %d bytes", got)
	}
}

// P14.3: kept lines and compasses in their order, and the errors of Parts, Card and CardFile.
func TestLists(t *testing.T) {
	b := book(t, "new cy", "new ada", "swap ada cy cap", "card ada 1 1", "undo", "new ben", "new b", "undo")
	if l := b.Lines(); !slices.Equal(l, texts("new cy", "new ada", "swap ada cy cap", "new ben")) {
		t.Errorf("Lines: %q", l)
	}
	if l := b.Compasses(); !slices.Equal(l, texts("cy", "ada", "ben")) {
		t.Errorf("Compasses: %q", l)
	}
	none := logbook.New()
	if len(none.Lines())+len(none.Compasses())+len(none.Restore()) != 0 || none.Distance() != 0 {
		t.Error("a new book has something")
	}
	for _, x := range []struct {
		name string
		e    api.Errno
	}{
		{"", api.ErrName}, {"Ada", api.ErrName}, {"abcdefg", api.ErrName}, {"ada ", api.ErrName}, {"ada\n", api.ErrName}, {"é", api.ErrName}, {"a\x00", api.ErrName}, {"1", api.ErrName}, {strings.Repeat("a", 20000), api.ErrName},
		{"b", api.ErrNone}, {"dan", api.ErrNone}, {"ad", api.ErrNone}, {"adab", api.ErrNone}, {"abcdef", api.ErrNone}, {"z", api.ErrNone},
	} {
		p, e := b.Parts(x.name)
		c, f := b.Card(x.name)
		file, g := b.CardFile(x.name)
		if e != x.e || f != x.e || g != x.e || p != [4]int{} || len(c) != 0 || file != "" {
			t.Errorf("%.20q: %v %d, %v %d, %q %d, want %d", x.name, p, e, c, f, file, g, x.e)
		}
	}
	if p, e := none.Parts("ada"); e != api.ErrNone || p != [4]int{} {
		t.Errorf("Parts in a new book: %v %d", p, e)
	}
}

// P14.4: holders after each number of kept lines.
func TestHolder(t *testing.T) {
	b := book(t, append(example(), "swap ada cy pivot", "undo")...)
	for _, x := range []struct {
		serial, after int
		want          string
		e             api.Errno
	}{
		{1, 3, "ada", api.OK}, {1, 4, "ben", api.OK}, {1, 5, "cy", api.OK}, {6, 6, "", api.ErrLost}, {13, 5, "", api.ErrNone},
		{1, 0, "", api.ErrNone}, {1, 1, "ada", api.OK}, {4, 1, "ada", api.OK}, {5, 1, "", api.ErrNone}, {5, 2, "ben", api.OK}, {8, 2, "ben", api.OK}, {9, 2, "", api.ErrNone}, {12, 3, "cy", api.OK},
		{5, 4, "ada", api.OK}, {9, 4, "cy", api.OK}, {9, 5, "ben", api.OK}, {6, 5, "ben", api.OK}, {13, 6, "ben", api.OK}, {14, 6, "", api.ErrNone}, {4, 6, "ada", api.OK}, {12, 6, "cy", api.OK},
		{0, 6, "", api.ErrNone}, {-1, 6, "", api.ErrNone}, {math.MinInt, 6, "", api.ErrNone}, {math.MaxInt, 6, "", api.ErrNone}, {1<<32 + 1, 6, "", api.ErrNone},
		{1, 7, "", api.ErrRange}, {1, -1, "", api.ErrRange}, {0, 7, "", api.ErrRange}, {99, -1, "", api.ErrRange}, {1, math.MaxInt, "", api.ErrRange}, {1, math.MinInt, "", api.ErrRange}, {1, 1<<32 + 1, "", api.ErrRange},
	} {
		if name, e := b.Holder(x.serial, x.after); name != x.want || e != x.e {
			t.Errorf("Holder of %d after %d: %q %d, want %q %d", x.serial, x.after, name, e, x.want, x.e)
		}
	}
	for _, x := range []struct {
		serial, after int
		e             api.Errno
	}{{1, 0, api.ErrNone}, {0, 0, api.ErrNone}, {1, 1, api.ErrRange}, {1, -1, api.ErrRange}} {
		if name, e := logbook.New().Holder(x.serial, x.after); name != "" || e != x.e {
			t.Errorf("Holder of %d after %d in a new book: %q %d", x.serial, x.after, name, e)
		}
	}
}

// P14.4, Definitions: homes, of replaced parts and of those that replaced them in turn, too.
func TestHome(t *testing.T) {
	b := book(t, append(example(), "mend ada bowl", "mend ada bowl", "swap ada cy bowl", "mend cy bowl", "mend ada pivot", "mend ada pivot", "undo")...)
	want := strings.Fields("ada ada ada ada ben ben ben ben cy cy cy cy ben ben ben ben ada")
	for i, home := range want {
		if name, e := b.Home(i + 1); name != home || e != api.OK {
			t.Errorf("Home of %d: %q %d, want %s", i+1, name, e, home)
		}
	}
	for _, serial := range list(0, -1, len(want)+1, math.MinInt, math.MaxInt, 1<<32+1) {
		if name, e := b.Home(serial); name != "" || e != api.ErrNone {
			t.Errorf("Home of %d: %q %d", serial, name, e)
		}
	}
	if p := must(b.Parts("cy")); p != [4]int{16, 10, 11, 12} {
		t.Errorf("Parts of cy: %v", p)
	}
}

// Definitions: serials that were taken back are given again.
func TestSerials(t *testing.T) {
	b := book(t, "new ada", "new ben", "undo", "mend ada cap", "undo", "mend ada needle", "new cy")
	for name, want := range map[string][4]int{"ada": {1, 2, 5, 4}, "cy": {6, 7, 8, 9}} {
		if p := must(b.Parts(name)); p != want {
			t.Errorf("Parts of %s: %v, want %v", name, p, want)
		}
	}
	if name, e := b.Holder(3, 2); name != "" || e != api.ErrLost {
		t.Errorf("Holder of a replaced part: %q %d", name, e)
	}
	if name, e := b.Home(5); name != "ada" || e != api.OK {
		t.Errorf("Home of 5: %q %d", name, e)
	}
}

// P14.5, P14.11: distances, and swaps that bring all parts home.
func TestDistance(t *testing.T) {
	with := func(l ...string) []string { return append(news(4), l...) }
	far := news(8)
	for _, kind := range kinds() {
		for i, name := range crew()[1:8] {
			far = append(far, "swap "+crew()[i]+" "+name+" "+kind)
		}
	}
	for _, x := range []struct {
		lines []string
		want  int
	}{
		{nil, 0}, {news(1), 0}, {news(8), 0}, {example(), 2}, {example()[:4], 1}, {far, 28},
		{with("swap ada ben cap"), 1}, {with("swap ada ben cap", "swap ben ada cap"), 0}, {with("swap ada ben cap", "swap cy d cap"), 2},
		{with("swap ada ben cap", "swap ben cy cap", "swap cy d cap"), 3}, {with("swap ada ben cap", "swap ben cy cap", "swap cy d cap", "swap ada ben cap"), 2},
		{with("swap ada ben cap", "swap ada ben bowl", "swap ada ben pivot"), 3}, {with("swap ada ben cap", "mend ada cap", "mend ben cap"), 1}, {with("swap ada ben cap", "swap ben cy cap", "swap ada cy cap"), 1},
		{with("swap ada ben cap", "undo"), 0}, {with("mend ada cap", "card ada 0 0"), 0}, {with("mend ada cap", "swap ada d cap"), 1},
	} {
		b := book(t, x.lines...)
		restore := b.Restore()
		if n := b.Distance(); n != x.want || len(restore) != x.want {
			t.Errorf("%q: Distance %d, Restore %q, want %d", x.lines, n, restore, x.want)
		}
		for _, line := range restore {
			if e := b.Do(line); e != api.OK || !strings.HasPrefix(line, "swap ") {
				t.Errorf("%q: Restore has %q, error %d", x.lines, line, e)
			}
		}
		if n := b.Distance(); n != 0 || len(b.Restore()) != 0 {
			t.Errorf("%q: %q leaves %d", x.lines, restore, n)
		}
	}
}

// P14.5: what restores a full book need not fit into it.
func TestRestoreOfFullBooks(t *testing.T) {
	full := append(news(3), "swap ada ben cap", "swap ben cy cap")
	full = append(full, slices.Repeat(texts("mend cy cap"), 195)...)
	b := book(t, full...)
	restore := b.Restore()
	if n := b.Distance(); n != 2 || len(restore) != 2 {
		t.Errorf("Distance %d, Restore %q", n, restore)
	}
	if e := b.Do(restore[0]); e != api.ErrFull {
		t.Errorf("%q: %d", restore[0], e)
	}
	later := book(t, append(full[:190], restore...)...)
	if n := later.Distance(); n != 0 {
		t.Errorf("%q leaves %d", restore, n)
	}
}
