package logbook

import (
	"strconv"
	"strings"

	"agonic/api"
)

// modulus is greater than all checksums.
const modulus = 9973

// The beginnings of the first and the last line of a book's file.
const (
	head = "compasses "
	foot = "sum "
)

func checksum(text string) int {
	n := 0
	for i := range len(text) {
		n = (n*31 + int(text[i])) % modulus
	}
	return n
}

// split returns the lines of a text that ends with a line feed, without their line feeds.
func split(text string) ([]string, api.Errno) {
	if len(text) > api.MaxText {
		return nil, api.ErrLong
	}
	all, ends := strings.CutSuffix(text, "\n")
	if !ends {
		return nil, api.ErrTorn
	}
	return strings.Split(all, "\n"), api.OK
}

// firstLine returns the first line of a book's file.
func firstLine(count int) string { return head + strconv.Itoa(count) }

// lastLine returns the last line of a book's file with the text before it.
func lastLine(before string) string { return foot + strconv.Itoa(checksum(before)) }

// unpack returns the lines between the first and the last one of a book's file.
func unpack(file string) ([]string, api.Errno) {
	lines, e := split(file)
	if e != api.OK {
		return nil, e
	}
	last := len(lines) - 1
	if last < 1 || lines[0] != firstLine(last-1) {
		return nil, api.ErrForm
	}
	word, found := strings.CutPrefix(lines[last], foot)
	if _, e := decimal(word, 0, modulus-1); !found || e != api.OK {
		return nil, api.ErrForm
	}
	before := strings.TrimSuffix(file, lines[last]+"\n")
	if lines[last] != lastLine(before) {
		return nil, api.ErrSum
	}
	return lines[1:last], api.OK
}

// line returns the line of an entry.
func (e Entry) line() string {
	return strconv.Itoa(e.Heading) + " " + strconv.Itoa(e.Deviation)
}

// readEntry returns the entry of a line.
func readEntry(line string) (Entry, api.Errno) {
	first, second, _ := strings.Cut(line, " ")
	if !isDecimal(first) || !isDecimal(second) {
		return Entry{}, api.ErrForm
	}
	at, e := heading(first)
	by, f := deviation(second)
	if e != api.OK || f != api.OK {
		return Entry{}, api.ErrRange
	}
	return Entry{at, by}, api.OK
}

// readEntries returns the entries of lines.
func readEntries(lines []string) ([]Entry, api.Errno) {
	var card []Entry
	for _, line := range lines {
		entry, e := readEntry(line)
		if e != api.OK {
			return nil, e
		}
		if n := len(card); n > 0 && entry.Heading <= card[n-1].Heading {
			return nil, api.ErrOrder
		}
		card = append(card, entry)
	}
	return card, api.OK
}
