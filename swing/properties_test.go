package swing_test

import (
	"slices"
	"strings"
	"testing"

	"agonic/api"
	"agonic/swing"
)

// every sees all rims of up to so many marks, and many of up to 64.
func every(seed uint64, most int, see func(d *dice, rim string)) {
	d := dice{seed}
	for length := 1; length <= most; length++ {
		for _, rim := range all(length) {
			see(&d, rim)
		}
	}
	for range 1500 {
		see(&d, d.rim())
	}
}

// smallest returns the smallest turn of a rim without an error.
func smallest(t *testing.T, rim string) (string, int) {
	t.Helper()
	row, turn, e := swing.Smallest(rim)
	if e != api.OK {
		t.Fatalf("Smallest(%s): %d", rim, e)
	}
	return row, turn
}

// P13.2, G3: no turn is smaller, and no smaller number of marks leads to it.
func TestTrueSmallest(t *testing.T) {
	every(1, 11, func(d *dice, rim string) {
		want, by := trueSmallest(rim)
		if row, turn := smallest(t, rim); row != want || turn != by {
			t.Fatalf("Smallest(%s) = %s, %d, want %s, %d", rim, row, turn, want, by)
		}
	})
}

// P13.2, P13.7, G4: a row has just one list of factors of all that it can be split into.
func TestOneWay(t *testing.T) {
	for length := range 13 {
		for _, row := range all(length) {
			lists := splits(row)
			if l := must(swing.Factors(row)); len(lists) != 1 || !slices.Equal(l, lists[0]) {
				t.Fatalf("Factors(%s) = %q, want one of %q", row, l, lists)
			}
		}
	}
}

// P13.2, P13.7, G2: factors are bars in their order, and are all of the row; the last one is
// the smallest end, the first one the longest beginning that is a bar.
func TestEndsOfRows(t *testing.T) {
	every(2, 11, func(d *dice, row string) {
		l := must(swing.Factors(row))
		if !areFactors(row, l) {
			t.Fatalf("Factors(%s) = %q", row, l)
		}
		var ends []string
		longest := ""
		for n := 1; n <= len(row); n++ {
			ends = append(ends, row[len(row)-n:])
			if isBar(row[:n]) {
				longest = row[:n]
			}
		}
		if last := slices.Min(ends); l[len(l)-1] != last || l[0] != longest {
			t.Fatalf("Factors(%s) = %q, want %s first and %s last", row, l, longest, last)
		}
	})
}

// P13.3, G3: Clear is the smallest length for which no two windows are equal; only rims that
// are equal to none of their turns have one.
func TestTrueClear(t *testing.T) {
	count := map[api.Errno]int{}
	every(3, 11, func(d *dice, rim string) {
		want, lost := trueClear(rim), api.OK
		if want < 0 {
			want, lost = 0, api.ErrLost
		}
		if n, e := swing.Clear(rim); n != want || e != lost {
			t.Fatalf("Clear(%s) = %d %d, want %d %d", rim, n, e, want, lost)
		}
		count[lost]++
	})
	if min(count[api.OK], count[api.ErrLost]) < 250 {
		t.Errorf("too few of one kind: %v", count)
	}
}

// P13.4, G3: what is seen fits just at the indices of Where.
func TestTrueWhere(t *testing.T) {
	none, some := 0, 0
	every(4, 8, func(d *dice, rim string) {
		for _, seen := range rows(
			d.seen(rim, d.roll(0, len(rim)-1), d.roll(1, 64)),
			d.hidden(d.row(d.roll(1, 7)), 2),
			d.hidden(d.row(d.roll(1, 64)), d.pick(0, 0, 1, 1000)),
		) {
			want := trueWhere(rim, seen)
			if l := must(swing.Where(rim, seen)); !slices.Equal(l, want) {
				t.Fatalf("Where(%s, %s) = %v, want %v", rim, seen, l, want)
			}
			if len(want) == 0 {
				none++
			} else {
				some++
			}
		}
	})
	if min(none, some) < 1000 {
		t.Errorf("%d fit nowhere, %d somewhere", none, some)
	}
}

// P13.5: bars are just the rows that are, in ascending order.
func TestTrueBars(t *testing.T) {
	for length := 1; length <= 6; length++ {
		want := slices.DeleteFunc(all(length), func(row string) bool { return !isBar(row) })
		if l := must(swing.Bars(length)); !slices.Equal(l, want) {
			t.Errorf("Bars(%d) = %q, want %q", length, l, want)
		}
	}
}

// P13.5, P13.8, G4: Ring is the smallest ring, which a search finds, and for the small orders
// the first one in the list of all rims; it is the bars whose lengths divide the order, and
// the order is Clear on it.
func TestSmallestRing(t *testing.T) {
	for order := 1; order <= 6; order++ {
		ring := must(swing.Ring(order))
		if want := trueRing(order); ring != want || !isRing(ring, order) {
			t.Errorf("Ring(%d) = %s, want %s", order, ring, want)
		}
		if order <= 4 {
			rims := all(1 << order)
			first := slices.IndexFunc(rims, func(rim string) bool { return isRing(rim, order) })
			if rims[first] != ring {
				t.Errorf("Ring(%d) = %s, want %s", order, ring, rims[first])
			}
		}
		var bars []string
		for length := range order + 1 {
			for _, row := range all(length) {
				if isBar(row) && order%length == 0 {
					bars = append(bars, row)
				}
			}
		}
		slices.Sort(bars)
		if all := strings.Join(bars, ""); ring != all {
			t.Errorf("Ring(%d) = %s, want the bars %s", order, ring, all)
		}
		if n := must(swing.Clear(ring)); n != order {
			t.Errorf("Clear of Ring(%d) = %d", order, n)
		}
	}
}

// P13.8, G4: no rim has more marks than there are rows of as many marks as Clear.
func TestNoLongerRim(t *testing.T) {
	every(5, 13, func(d *dice, rim string) {
		if n, e := swing.Clear(rim); e == api.OK && n < 7 && len(rim) > 1<<n {
			t.Fatalf("Clear(%s) = %d", rim, n)
		}
	})
}

// P13.6: the classes of rims that are alike, counted one by one, and by the bars of which each
// is a turn.
func TestTrueRims(t *testing.T) {
	for length := 1; length <= 13; length++ {
		classes := map[string]bool{}
		for _, rim := range all(length) {
			row, _ := smallest(t, rim)
			classes[row] = true
		}
		if n := must(swing.Rims(length)); n != len(classes) {
			t.Errorf("Rims(%d) = %d, want %d", length, n, len(classes))
		}
	}
	var bars [41]int
	for length := 1; length <= 40; length++ {
		rest, sum := 1<<length, 0
		for d := 1; d < length; d++ {
			if length%d == 0 {
				rest -= d * bars[d]
				sum += bars[d]
			}
		}
		bars[length] = rest / length
		if n := must(swing.Rims(length)); n != sum+bars[length] {
			t.Errorf("Rims(%d) = %d, want %d", length, n, sum+bars[length])
		}
	}
}

// P13.9, G1, G3: wherever the watcher is, the index fits, and fits alone with Clear marks that
// are known; with more marks seen, or fewer of them unknown, no further index fits.
func TestSeen(t *testing.T) {
	every(6, 7, func(d *dice, rim string) {
		at, length := d.roll(0, len(rim)-1), d.roll(1, 63)
		seen := window(rim, at, length+1)
		fewer := d.hidden(seen, 2)
		less := must(swing.Where(rim, d.hidden(fewer, 2)[:length]))
		for _, more := range rows(fewer[:length], fewer, seen) {
			l := must(swing.Where(rim, more))
			if !slices.Contains(l, at) || slices.ContainsFunc(l, func(i int) bool { return !slices.Contains(less, i) }) {
				t.Fatalf("%s at %d: %s fits at %v, with less known at %v", rim, at, more, l, less)
			}
			less = l
		}
		n, e := swing.Clear(rim)
		if e != api.OK || n == 0 {
			return
		}
		if l := must(swing.Where(rim, window(rim, at, n))); !slices.Equal(l, list(at)) {
			t.Fatalf("%s at %d: %d marks fit at %v", rim, at, n, l)
		}
		enough := n > 1
		for i := range len(rim) {
			enough = enough && len(must(swing.Where(rim, window(rim, i, n-1)))) == 1
		}
		if enough {
			t.Fatalf("%s: %d marks are enough", rim, n-1)
		}
	})
}

// P13.10: just the rims that are equal to none of their turns but themselves are turns of a
// bar; they are as many as the bars have turns, and with the shorter ones all rims are counted.
func TestBarsOfRims(t *testing.T) {
	every(7, 11, func(d *dice, rim string) {
		row, _ := smallest(t, rim)
		one := len(must(swing.Factors(row))) == 1
		if _, e := swing.Clear(rim); isBar(row) != isOwn(rim) || one != isOwn(rim) || (e == api.OK) != one {
			t.Fatalf("%s: bar %v, Clear %d", rim, one, e)
		}
	})
	for length := 1; length <= 6; length++ {
		sum := 0
		for d := 1; d <= length; d++ {
			if length%d == 0 {
				sum += d * len(must(swing.Bars(d)))
			}
		}
		if sum != 1<<length {
			t.Errorf("bars of lengths that divide %d: %d turns", length, sum)
		}
	}
}

// P13.11, G5: turns have the same smallest turn and the same Clear, and indices that are
// turned with them; rims that are read backwards, or with marks exchanged, have the same
// Clear.
func TestTurned(t *testing.T) {
	every(8, 8, func(d *dice, rim string) {
		by := d.roll(0, len(rim)-1)
		other := turned(rim, by)
		length, lost := swing.Clear(rim)
		for _, like := range rows(other, backwards(rim), exchanged(rim)) {
			if n, e := swing.Clear(like); n != length || e != lost {
				t.Fatalf("Clear(%s) = %d %d, of %s %d %d", rim, length, lost, like, n, e)
			}
		}
		row, _ := smallest(t, rim)
		if got, _ := smallest(t, other); got != row {
			t.Fatalf("Smallest(%s) = %s, of %s %s", rim, row, other, got)
		}
		seen := d.seen(rim, d.roll(0, len(rim)-1), d.roll(1, 10))
		want := must(swing.Where(rim, seen))
		for i, at := range want {
			want[i] = (at + len(rim) - by) % len(rim)
		}
		slices.Sort(want)
		if l := must(swing.Where(other, seen)); !slices.Equal(l, want) {
			t.Fatalf("Where(%s, %s) = %v, want %v", other, seen, l, want)
		}
	})
}

// P13.4, G5: with light and dark exchanged in both, what is seen fits at the same indices.
func TestExchanged(t *testing.T) {
	every(9, 6, func(d *dice, rim string) {
		seen := d.hidden(d.row(d.roll(1, 9)), 2)
		want := must(swing.Where(rim, seen))
		if l := must(swing.Where(exchanged(rim), exchanged(seen))); !slices.Equal(l, want) {
			t.Fatalf("Where(%s, %s), exchanged: %v, want %v", rim, seen, l, want)
		}
	})
}
