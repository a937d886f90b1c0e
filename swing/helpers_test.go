package swing_test

import (
	"slices"
	"strconv"
	"strings"

	"agonic/api"
)

func list(l ...int) []int { return l }

func rows(l ...string) []string { return l }

// must returns a result that has no error.
func must[T any](result T, e api.Errno) T {
	if e != api.OK {
		panic("error " + strconv.Itoa(int(e)))
	}
	return result
}

// dice yields the same numbers in every run.
type dice struct{ state uint64 }

// roll returns a number from a to b.
func (d *dice) roll(a, b int) int {
	d.state = d.state*6364136223846793005 + 1442695040888963407
	return a + int(d.state>>33)%(b-a+1)
}

func (d *dice) pick(l ...int) int { return l[d.roll(0, len(l)-1)] }

// row returns so many marks.
func (d *dice) row(length int) string {
	var out strings.Builder
	for range length {
		out.WriteString(strconv.Itoa(d.roll(0, 1)))
	}
	return out.String()
}

// rim returns up to 64 marks, some of which come again, one of them being exchanged then or not.
func (d *dice) rim() string {
	part := d.row(d.roll(1, d.pick(2, 5, 12, 64)))
	rim := []byte(strings.Repeat(part, d.roll(1, 64/len(part))))
	if d.roll(0, 1) == 0 {
		rim[d.roll(0, len(rim)-1)] ^= 1
	}
	return turned(string(rim), d.roll(0, len(rim)-1))
}

// seen returns what is seen from an index on, some marks being unknown.
func (d *dice) seen(rim string, at, length int) string {
	return d.hidden(window(rim, at, length), d.pick(1, 2, 5, 1000))
}

// hidden makes one of some bytes unknown.
func (d *dice) hidden(seen string, rare int) string {
	out := []byte(seen)
	for i := range out {
		if d.roll(0, rare) == 0 {
			out[i] = '?'
		}
	}
	return string(out)
}

// all returns all rows of so many marks, the smaller ones first.
func all(length int) []string {
	out := rows("")
	for range length {
		var longer []string
		for _, row := range out {
			longer = append(longer, row+"0", row+"1")
		}
		out = longer
	}
	return out
}

// window returns so many marks of a rim from an index on, mark by mark.
func window(rim string, at, length int) string {
	var out []byte
	for i := range length {
		out = append(out, rim[(at+i)%len(rim)])
	}
	return string(out)
}

func turned(rim string, t int) string { return window(rim, t, len(rim)) }

// isOwn reports whether a rim is equal to none of its turns but itself.
func isOwn(rim string) bool {
	for t := 1; t < len(rim); t++ {
		if turned(rim, t) == rim {
			return false
		}
	}
	return true
}

// isBar reports whether a row is a bar.
func isBar(row string) bool {
	for t := 1; t < len(row); t++ {
		if turned(row, t) <= row {
			return false
		}
	}
	return row != ""
}

// areFactors reports whether bars are the factors of a row.
func areFactors(row string, bars []string) bool {
	for i, bar := range bars {
		if !isBar(bar) || i > 0 && bars[i-1] < bar {
			return false
		}
	}
	return strings.Join(bars, "") == row
}

// splits returns all lists of bars that are the factors of a row.
func splits(row string) [][]string {
	if row == "" {
		return [][]string{nil}
	}
	var out [][]string
	for n := 1; n <= len(row); n++ {
		if !isBar(row[:n]) {
			continue
		}
		for _, rest := range splits(row[n:]) {
			if len(rest) == 0 || rest[0] <= row[:n] {
				out = append(out, append(rows(row[:n]), rest...))
			}
		}
	}
	return out
}

// trueSmallest returns the smallest turn of a rim, and the first index where it begins.
func trueSmallest(rim string) (string, int) {
	var turns []string
	for t := range len(rim) {
		turns = append(turns, turned(rim, t))
	}
	row := slices.Min(turns)
	return row, slices.Index(turns, row)
}

// trueClear returns the smallest length for which the windows at each two indices are
// different, or -1 if the rim is equal to one of its turns.
func trueClear(rim string) int {
	if !isOwn(rim) {
		return -1
	}
	length := 0
	for i := range len(rim) {
		for k := range i {
			for window(rim, i, length) == window(rim, k, length) {
				length++
			}
		}
	}
	return length
}

// trueWhere returns the indices at which what is seen fits.
func trueWhere(rim, seen string) []int {
	var out []int
	for at := range len(rim) {
		fits := true
		for i := range len(seen) {
			mark := rim[(at+i)%len(rim)]
			fits = fits && (seen[i] == mark || seen[i] == '?')
		}
		if fits {
			out = append(out, at)
		}
	}
	return out
}

// isRing reports whether each row of so many marks is the window at just one index.
func isRing(rim string, order int) bool {
	for _, row := range all(order) {
		n := 0
		for at := range len(rim) {
			if window(rim, at, order) == row {
				n++
			}
		}
		if n != 1 {
			return false
		}
	}
	return len(rim) == 1<<order
}

// trueRing returns the first ring of an order in a search that tries light marks first. It
// begins with light marks only, since there is a ring that does.
func trueRing(order int) string {
	var grow func(row string) string
	grow = func(row string) string {
		if len(row) == 1<<order {
			if isRing(row, order) {
				return row
			}
			return ""
		}
		for _, mark := range rows("0", "1") {
			next := row + mark
			if n := len(next); strings.Contains(next[:n-1], next[n-order:]) {
				continue
			}
			if ring := grow(next); ring != "" {
				return ring
			}
		}
		return ""
	}
	return grow(strings.Repeat("0", order))
}

func backwards(rim string) string {
	out := []byte(rim)
	slices.Reverse(out)
	return string(out)
}

func exchanged(rim string) string {
	return strings.Map(func(mark rune) rune {
		switch mark {
		case '0':
			return '1'
		case '1':
			return '0'
		}
		return mark
	}, rim)
}
