package logbook_test

import (
	"fmt"
	"regexp"
	"slices"
	"strconv"
	"strings"
	"testing"

	"agonic/api"
	"agonic/logbook"
)

func list(l ...int) []int { return l }

func texts(l ...string) []string { return l }

// must returns a result that has no error.
func must[T any](result T, e api.Errno) T {
	if e != api.OK {
		panic("error " + strconv.Itoa(int(e)))
	}
	return result
}

// text returns lines as one text.
func text(lines ...string) string {
	out := ""
	for _, line := range lines {
		out += line + "\n"
	}
	return out
}

// book returns a book that was told lines.
func book(t *testing.T, lines ...string) *logbook.Book {
	t.Helper()
	b := logbook.New()
	for _, line := range lines {
		if e := b.Do(line); e != api.OK {
			t.Fatalf("%q: %d", line, e)
		}
	}
	return b
}

// example is S, the lines of the chapter's examples.
func example() []string {
	return texts("new ada", "new ben", "new cy", "swap ada ben bowl", "swap ben cy bowl", "mend ben cap")
}

func kinds() []string { return texts("bowl", "cap", "needle", "pivot") }

// crew returns the names of nine compasses, one more than a book can have.
func crew() []string { return strings.Fields("ada ben cy d eva fredas gus hal ida") }

// news returns the lines of so many new compasses of the crew.
func news(count int) []string {
	var out []string
	for _, name := range crew()[:count] {
		out = append(out, "new "+name)
	}
	return out
}

// dice yields the same numbers in every run.
type dice struct{ state uint64 }

// roll returns a number from a to b.
func (d *dice) roll(a, b int) int {
	d.state = d.state*6364136223846793005 + 1442695040888963407
	return a + int(d.state>>33)%(b-a+1)
}

func (d *dice) of(l []string) string { return l[d.roll(0, len(l)-1)] }

// line returns a line about the first few of the crew; only its numbers can be out of range.
func (d *dice) line(few int) string {
	name := func() string { return d.of(crew()[:few]) }
	switch d.roll(0, 11) {
	case 0, 1:
		return "new " + name()
	case 2, 3, 4, 5:
		return "swap " + name() + " " + name() + " " + d.of(kinds())
	case 6, 7:
		return fmt.Sprintf("card %s %d %d", name(), d.roll(0, 8), d.roll(-310, 310))
	case 8, 9:
		return "mend " + name() + " " + d.of(kinds())
	}
	return "undo"
}

// told returns a book, and a desk of the same kept lines, after up to so many lines were tried.
func (d *dice) told(most int) (*logbook.Book, desk) {
	b, k, few := logbook.New(), desk{}, d.roll(2, 9)
	arrived := d.roll(0, few)
	for i := range d.roll(0, most) {
		line := d.line(few)
		if i < arrived {
			line = news(few)[i]
		}
		if b.Do(line) == api.OK {
			k.do(line)
		}
	}
	return b, k
}

// desk has the kept lines of a book, and reads everything else in them again for each question.
type desk struct{ kept []string }

// do does a line that has no error.
func (k *desk) do(line string) {
	if line == "undo" {
		k.kept = slices.Clone(k.kept[:len(k.kept)-1])
	} else {
		k.kept = append(slices.Clone(k.kept), line)
	}
}

// store is what follows from kept lines: slots are compasses with kinds, and homes those of the
// parts with the serials from 1 on.
type store struct {
	names []string
	slots map[string]int
	homes []string
	cards map[string]map[int]int
}

// after reads the kept lines up to some number of them.
func (k desk) after(count int) store {
	s := store{nil, map[string]int{}, nil, map[string]map[int]int{}}
	for _, line := range k.kept[:count] {
		w := strings.Fields(line)
		switch w[0] {
		case "new":
			s.names = append(s.names, w[1])
			s.cards[w[1]] = map[int]int{}
			for _, kind := range kinds() {
				s.homes = append(s.homes, w[1])
				s.slots[w[1]+" "+kind] = len(s.homes)
			}
		case "swap":
			a, b := w[1]+" "+w[3], w[2]+" "+w[3]
			s.slots[a], s.slots[b] = s.slots[b], s.slots[a]
		case "card":
			heading, _ := strconv.Atoi(w[2])
			s.cards[w[1]][heading], _ = strconv.Atoi(w[3])
		case "mend":
			slot := w[1] + " " + w[2]
			s.homes = append(s.homes, s.homes[s.slots[slot]-1])
			s.slots[slot] = len(s.homes)
		}
	}
	return s
}

func (k desk) now() store { return k.after(len(k.kept)) }

// holder returns the compass that a part is in.
func (s store) holder(serial int) (string, api.Errno) {
	if serial < 1 || serial > len(s.homes) {
		return "", api.ErrNone
	}
	for slot, in := range s.slots {
		if in == serial {
			return strings.Fields(slot)[0], api.OK
		}
	}
	return "", api.ErrLost
}

// distance returns the number of compasses less the number of rings, for all kinds. It finds
// the rings by giving each compass and the home of its part the smaller one of their marks.
func (s store) distance() int {
	sum := 0
	for _, kind := range kinds() {
		marks := map[string]int{}
		for i, name := range s.names {
			marks[name] = i
		}
		for range s.names {
			for _, name := range s.names {
				home := s.homes[s.slots[name+" "+kind]-1]
				least := min(marks[name], marks[home])
				marks[name], marks[home] = least, least
			}
		}
		rings := map[int]bool{}
		for _, mark := range marks {
			rings[mark] = true
		}
		sum += len(s.names) - len(rings)
	}
	return sum
}

// entries returns the card of a compass.
func (s store) entries(name string) []logbook.Entry {
	var out []logbook.Entry
	for heading := range 8 {
		if deviation, told := s.cards[name][heading]; told {
			out = append(out, logbook.Entry{Heading: heading, Deviation: deviation})
		}
	}
	return out
}

// cardFile returns the card file of a compass.
func (s store) cardFile(name string) string {
	out := name + "\n"
	for _, entry := range s.entries(name) {
		out += fmt.Sprintf("%d %d\n", entry.Heading, entry.Deviation)
	}
	return out
}

// summed returns a text with its checksum.
func summed(before string) string {
	n := 0
	for _, c := range []byte(before) {
		n = (n*31 + int(c)) % 9973
	}
	return fmt.Sprintf("%ssum %d\n", before, n)
}

// file returns the file of a book with lines.
func file(lines ...string) string {
	return summed(fmt.Sprintf("compasses %d\n", len(lines)) + text(lines...))
}

// The forms of the definitions.
var (
	lineForm   = regexp.MustCompile(`^[!-~]+( [!-~]+)*$`)
	numberForm = regexp.MustCompile(`^(0|-?[1-9][0-9]*)$`)
	nameForm   = regexp.MustCompile(`^[a-z]{1,6}$`)
	kindForm   = regexp.MustCompile(`^(bowl|cap|needle|pivot)$`)
	entryForm  = regexp.MustCompile(`^(0|-?[1-9][0-9]*) (0|-?[1-9][0-9]*)$`)
	sumForm    = regexp.MustCompile(`^sum (0|[1-9][0-9]{0,3})$`)
	headings   = regexp.MustCompile(`^[0-7]$`)
	deviations = regexp.MustCompile(`^(0|-?[1-9][0-9]?|-?[12][0-9][0-9]|-?300)$`)
)

// errorOf returns the error of a line that has one in itself.
func errorOf(line string) api.Errno {
	w := strings.Split(line, " ")
	forms := map[string]string{"new": "C", "swap": "CCK", "card": "Cnd", "mend": "CK", "undo": ""}
	form, known := forms[w[0]]
	switch {
	case len(line) > 60:
		return api.ErrLong
	case !lineForm.MatchString(line):
		return api.ErrForm
	case !known:
		return api.ErrKind
	case len(w) != len(form)+1:
		return api.ErrForm
	}
	for _, x := range []struct {
		letters string
		is      *regexp.Regexp
		e       api.Errno
	}{{"nd", numberForm, api.ErrForm}, {"C", nameForm, api.ErrName}, {"K", kindForm, api.ErrKind}, {"n", headings, api.ErrRange}, {"d", deviations, api.ErrRange}} {
		for i, letter := range form {
			if strings.ContainsRune(x.letters, letter) && !x.is.MatchString(w[i+1]) {
				return x.e
			}
		}
	}
	return api.OK
}

// errorOf returns the error of a line in a book.
func (k desk) errorOf(line string) api.Errno {
	if e := errorOf(line); e != api.OK {
		return e
	}
	w, names := strings.Fields(line), k.now().names
	missing := func(name string) bool { return !slices.Contains(names, name) }
	switch {
	case w[0] == "undo" && len(k.kept) == 0:
		return api.ErrEmpty
	case w[0] == "undo":
		return api.OK
	case w[0] == "new" && !missing(w[1]):
		return api.ErrTwice
	case w[0] == "new" && len(names) == 8:
		return api.ErrMany
	case w[0] != "new" && missing(w[1]), w[0] == "swap" && missing(w[2]):
		return api.ErrNone
	case w[0] == "swap" && w[1] == w[2]:
		return api.ErrTwice
	case len(k.kept) == 200:
		return api.ErrFull
	}
	return api.OK
}

// linesOf returns the lines of a text that ends with a line feed.
func linesOf(text string) ([]string, api.Errno) {
	if len(text) > 16000 {
		return nil, api.ErrLong
	}
	if text == "" || text[len(text)-1] != '\n' {
		return nil, api.ErrTorn
	}
	return strings.Split(text[:len(text)-1], "\n"), api.OK
}

// errorOfText returns how many lines of a text are done, and its error; the desk does them.
func (k *desk) errorOfText(text string) (int, api.Errno) {
	if text == "" {
		return 0, api.OK
	}
	lines, e := linesOf(text)
	if e != api.OK {
		return 0, e
	}
	for i, line := range lines {
		if e := k.errorOf(line); e != api.OK {
			return i, e
		}
		k.do(line)
	}
	return len(lines), api.OK
}

// errorOfFile returns the error of a book's file.
func errorOfFile(text string) api.Errno {
	lines, e := linesOf(text)
	if e != api.OK {
		return e
	}
	n := len(lines) - 2
	if n < 0 || lines[0] != fmt.Sprintf("compasses %d", n) || !sumForm.MatchString(lines[n+1]) || len(lines[n+1]) == 8 && lines[n+1] > "sum 9972" {
		return api.ErrForm
	}
	if summed(text[:len(text)-len(lines[n+1])-1]) != text {
		return api.ErrSum
	}
	k := desk{}
	for _, line := range lines[1 : n+1] {
		if line == "undo" {
			return api.ErrOrder
		}
		if e := k.errorOf(line); e != api.OK {
			return e
		}
		k.do(line)
	}
	return api.OK
}

// errorOfCard returns the error of a card file.
func errorOfCard(text string) api.Errno {
	lines, e := linesOf(text)
	if e != api.OK {
		return e
	}
	if !nameForm.MatchString(lines[0]) {
		return api.ErrName
	}
	before := ""
	for _, line := range lines[1:] {
		if !entryForm.MatchString(line) {
			return api.ErrForm
		}
		w := strings.Fields(line)
		if !headings.MatchString(w[0]) || !deviations.MatchString(w[1]) {
			return api.ErrRange
		}
		if w[0] <= before {
			return api.ErrOrder
		}
		before = w[0]
	}
	return api.OK
}

// holding is a compass that a part is in, or an error.
type holding struct {
	compass string
	e       api.Errno
}

// answers is what a book returns for everything; holders are those of the serials up to one
// that no part has, after some numbers of kept lines.
type answers struct {
	lines, compasses, restore []string
	parts                     [][4]int
	cards                     [][]logbook.Entry
	files                     []string
	homes                     []holding
	holders                   [][]holding
	distance                  int
	file                      string
}

// plain returns a copy of a list, which is nil if the list has no elements: both mean the same.
func plain[T any](l []T) []T { return append([]T(nil), l...) }

// ask returns what a book returns for everything that has no error.
func ask(b *logbook.Book) answers {
	a := answers{lines: plain(b.Lines()), compasses: plain(b.Compasses()), restore: plain(b.Restore()), distance: b.Distance(), file: b.File()}
	for _, name := range a.compasses {
		a.parts = append(a.parts, must(b.Parts(name)))
		a.cards = append(a.cards, plain(must(b.Card(name))))
		a.files = append(a.files, must(b.CardFile(name)))
	}
	for serial := 0; ; serial++ {
		home, e := b.Home(serial)
		a.homes = append(a.homes, holding{home, e})
		if serial > 0 && e == api.ErrNone {
			break
		}
	}
	for after := range len(a.lines) + 1 {
		var row []holding
		for serial := range a.homes {
			name, e := b.Holder(serial, after)
			row = append(row, holding{name, e})
		}
		a.holders = append(a.holders, row)
	}
	return a
}

// answers returns what a book with the same kept lines has to return; Restore is free.
func (k desk) answers(restore []string) answers {
	s := k.now()
	a := answers{lines: plain(k.kept), compasses: s.names, restore: plain(restore), distance: s.distance(), file: file(k.kept...)}
	for _, name := range s.names {
		parts := [4]int{}
		for i, kind := range kinds() {
			parts[i] = s.slots[name+" "+kind]
		}
		a.parts = append(a.parts, parts)
		a.cards = append(a.cards, s.entries(name))
		a.files = append(a.files, s.cardFile(name))
	}
	a.homes = append(a.homes, holding{"", api.ErrNone})
	for _, home := range s.homes {
		a.homes = append(a.homes, holding{home, api.OK})
	}
	a.homes = append(a.homes, holding{"", api.ErrNone})
	for after := range len(k.kept) + 1 {
		then := k.after(after)
		var row []holding
		for serial := range a.homes {
			name, e := then.holder(serial)
			row = append(row, holding{name, e})
		}
		a.holders = append(a.holders, row)
	}
	return a
}
