package swing_test

import (
	"math"
	"slices"
	"strings"
	"testing"

	"agonic/api"
	"agonic/swing"
)

// Types, Limits: the chapter's limits.
func TestLimits(t *testing.T) {
	if got := list(swing.MaxMarks, swing.MaxOrder); !slices.Equal(got, list(64, 6)) {
		t.Errorf("limits %v", got)
	}
}

// question is arguments of all functions; row is one of Factors.
type question struct {
	rim, seen, row       string
	length, order, marks int
}

// ask returns a question about a rim that has no other error.
func ask(rim string) question {
	return question{rim: rim, seen: "?", row: rim, length: 1, order: 1, marks: 1}
}

// P13.1, and the first error of the functions of rims, also if there are others.
func TestBadRims(t *testing.T) {
	for i, x := range []struct {
		rim string
		e   api.Errno
	}{
		{"", api.ErrEmpty},
		{strings.Repeat("0", 65), api.ErrMany},
		{strings.Repeat("01", 500), api.ErrMany},
		{strings.Repeat("x", 65), api.ErrMany},
		{strings.Repeat("0", 64) + "?", api.ErrMany},
		{strings.Repeat("é", 33), api.ErrMany},
		{strings.Repeat("\xff", 65), api.ErrMany},
		{strings.Repeat("é", 32), api.ErrForm},
		{"?", api.ErrForm},
		{"2", api.ErrForm},
		{"/", api.ErrForm},
		{"012", api.ErrForm},
		{"x01", api.ErrForm},
		{"0?1", api.ErrForm},
		{"0 1", api.ErrForm},
		{" ", api.ErrForm},
		{"01\n", api.ErrForm},
		{"\x00", api.ErrForm},
		{"\x01", api.ErrForm},
		{"0\x00", api.ErrForm},
		{"0\x80", api.ErrForm},
		{"\xc0\xb0", api.ErrForm},
		{"\xef\xbf\xbd", api.ErrForm},
		{"\xb0", api.ErrForm},
		{"é", api.ErrForm},
		{"０", api.ErrForm},
		{"0１", api.ErrForm},
		{"\U00010030", api.ErrForm},
		{strings.Repeat("0", 63) + "2", api.ErrForm},
		{strings.Repeat("?", 64), api.ErrForm},
	} {
		for _, seen := range rows("?", "", "x", strings.Repeat("0", 65)) {
			q := ask(x.rim)
			q.seen = seen
			got := q.errors(t)
			want := x.e
			if x.rim == "" {
				want = api.OK
			}
			if got[2] != want {
				t.Errorf("Factors of row %d: %d, want %d", i, got[2], want)
			}
			for _, j := range list(0, 1, 3, 4) {
				if got[j] != x.e {
					t.Errorf("rim %d, function %d: %d, want %d", i, j, got[j], x.e)
				}
			}
		}
	}
}

// P13.1: rims without an error, at the ends of what is stated.
func TestGoodRims(t *testing.T) {
	for _, rim := range rows("0", "1", "01", "0011", "00010111", strings.Repeat("0", 63)+"1", "0"+strings.Repeat("1", 63)) {
		if got := ask(rim).errors(t); !slices.Equal(got, make([]api.Errno, 8)) {
			t.Errorf("%s: %v", rim, got)
		}
	}
	for _, rim := range rows("00", "0101", "011011", strings.Repeat("0", 64), strings.Repeat("01", 32), strings.Repeat("0", 63)) {
		want := make([]api.Errno, 8)
		want[3] = api.ErrLost
		if got := ask(rim).errors(t); !slices.Equal(got, want) {
			t.Errorf("%s: %v", rim, got)
		}
	}
}

// P13.2: smallest turns; the smallest of several numbers by which a rim is turned for it.
func TestSmallest(t *testing.T) {
	for _, x := range []struct {
		rim, row string
		turn     int
	}{
		{"1101", "0111", 2},
		{"10100", "00101", 3},
		{"0", "0", 0},
		{"1", "1", 0},
		{"01", "01", 0},
		{"10", "01", 1},
		{"000", "000", 0},
		{"1010", "0101", 1},
		{"0101", "0101", 0},
		{"100100", "001001", 1},
		{"110110", "011011", 2},
		{"0001", "0001", 0},
		{"1000", "0001", 1},
		{"0100", "0001", 2},
		{"0010", "0001", 3},
		{"0010010001", "0001001001", 6},
		{strings.Repeat("1", 63) + "0", "0" + strings.Repeat("1", 63), 63},
		{strings.Repeat("10", 32), strings.Repeat("01", 32), 1},
	} {
		if row, turn, e := swing.Smallest(x.rim); row != x.row || turn != x.turn || e != api.OK {
			t.Errorf("Smallest(%s) = %s, %d %d, want %s, %d", x.rim, row, turn, e, x.row, x.turn)
		}
	}
}

// P13.2: factors, of an empty row and of the longest ones too.
func TestFactors(t *testing.T) {
	for _, x := range []struct {
		row  string
		want []string
	}{
		{"0010110", rows("001011", "0")},
		{"1100", rows("1", "1", "0", "0")},
		{"0101", rows("01", "01")},
		{"", nil},
		{"0", rows("0")},
		{"1", rows("1")},
		{"01", rows("01")},
		{"10", rows("1", "0")},
		{"011", rows("011")},
		{"0011", rows("0011")},
		{"01011", rows("01011")},
		{"010100", rows("01", "01", "0", "0")},
		{"0100101", rows("01", "00101")},
		{"00100101", rows("00100101")},
		{"001001011", rows("001001011")},
		{"00100100", rows("001", "001", "0", "0")},
		{"1011011", rows("1", "011", "011")},
		{strings.Repeat("0", 64), slices.Repeat(rows("0"), 64)},
		{strings.Repeat("1", 64), slices.Repeat(rows("1"), 64)},
		{strings.Repeat("0", 63) + "1", rows(strings.Repeat("0", 63) + "1")},
		{"1" + strings.Repeat("0", 63), append(rows("1"), slices.Repeat(rows("0"), 63)...)},
	} {
		if l, e := swing.Factors(x.row); !slices.Equal(l, x.want) || e != api.OK {
			t.Errorf("Factors(%s) = %q %d, want %q", x.row, l, e, x.want)
		}
	}
	for _, x := range []struct {
		row string
		e   api.Errno
	}{{strings.Repeat("0", 65), api.ErrMany}, {strings.Repeat("é", 33), api.ErrMany}, {strings.Repeat("é", 32), api.ErrForm}, {"?", api.ErrForm}, {"1012", api.ErrForm}, {"\xc0\xb0", api.ErrForm}} {
		if l, e := swing.Factors(x.row); len(l) != 0 || e != x.e {
			t.Errorf("Factors(%q) = %q %d, want error %d", x.row, l, e, x.e)
		}
	}
}

// P13.3: the lengths of windows that are different; rims that are equal to a turn.
func TestClear(t *testing.T) {
	for _, x := range []struct {
		rim  string
		want int
		e    api.Errno
	}{
		{"00010111", 3, api.OK},
		{"0011", 2, api.OK},
		{"0101", 0, api.ErrLost},
		{"1", 0, api.OK},
		{"0", 0, api.OK},
		{"01", 1, api.OK},
		{"10", 1, api.OK},
		{"00", 0, api.ErrLost},
		{"11", 0, api.ErrLost},
		{"001", 2, api.OK},
		{"110", 2, api.OK},
		{"000", 0, api.ErrLost},
		{"010010", 0, api.ErrLost},
		{"010011", 3, api.OK},
		{"010110", 3, api.OK},
		{"0100101", 6, api.OK},
		{strings.Repeat("1", 63) + "0", 63, api.OK},
		{strings.Repeat("01", 31) + "00", 62, api.OK},
		{strings.Repeat("0001", 16), 0, api.ErrLost},
		{strings.Repeat("0", 32) + strings.Repeat("1", 32), 32, api.OK},
	} {
		if n, e := swing.Clear(x.rim); n != x.want || e != x.e {
			t.Errorf("Clear(%s) = %d %d, want %d %d", x.rim, n, e, x.want, x.e)
		}
	}
}

// P13.4: where what is seen fits, once around and more often; what cannot be seen.
func TestWhere(t *testing.T) {
	long := strings.Repeat("0", 65)
	for _, x := range []struct {
		rim, seen string
		want      []int
		e         api.Errno
	}{
		{"00010111", "01", list(2, 4), api.OK},
		{"00010111", "1?1", list(3, 5), api.OK},
		{"00010111", "0000", nil, api.OK},
		{"00010111", "?", list(0, 1, 2, 3, 4, 5, 6, 7), api.OK},
		{"00010111", "0", list(0, 1, 2, 4), api.OK},
		{"00010111", "1", list(3, 5, 6, 7), api.OK},
		{"00010111", "100", list(7), api.OK},
		{"00010111", "?000", list(7), api.OK},
		{"00010111", "000101110", list(0), api.OK},
		{"00010111", "000101111", nil, api.OK},
		{"00010111", "???????????0", list(1, 5, 6, 7), api.OK},
		{"0", strings.Repeat("0", 64), list(0), api.OK},
		{"0", strings.Repeat("0", 63) + "1", nil, api.OK},
		{"0", strings.Repeat("?", 64), list(0), api.OK},
		{"1", "1", list(0), api.OK},
		{"01", strings.Repeat("?", 63) + "0", list(1), api.OK},
		{"01", strings.Repeat("10", 32), list(1), api.OK},
		{"011", "1?0", list(1), api.OK},
		{"011", "110110", list(1), api.OK},
		{"0101", "01", list(0, 2), api.OK},
		{strings.Repeat("0", 63) + "1", "1", list(63), api.OK},
		{strings.Repeat("0", 63) + "1", "10", list(63), api.OK},
		{"01", "", nil, api.ErrEmpty},
		{"01", long, nil, api.ErrMany},
		{"01", strings.Repeat("?", 65), nil, api.ErrMany},
		{"01", strings.Repeat("x", 65), nil, api.ErrMany},
		{"01", strings.Repeat("é", 33), nil, api.ErrMany},
		{"01", strings.Repeat("é", 32), nil, api.ErrForm},
		{"01", "x", nil, api.ErrForm},
		{"01", "0?2", nil, api.ErrForm},
		{"01", "11x", nil, api.ErrForm},
		{"01", "0 1", nil, api.ErrForm},
		{"01", "\x80", nil, api.ErrForm},
		{"01", "0\x00", nil, api.ErrForm},
		{"01", "\xef\xbf\xbd", nil, api.ErrForm},
		{"01", "\xc0\xbf", nil, api.ErrForm},
		{"01", "？", nil, api.ErrForm},
		{"0?", "0", nil, api.ErrForm},
		{"", "", nil, api.ErrEmpty},
		{"x", "", nil, api.ErrForm},
		{long, "", nil, api.ErrMany},
	} {
		if l, e := swing.Where(x.rim, x.seen); !slices.Equal(l, x.want) || e != x.e {
			t.Errorf("Where(%q, %q) = %v %d, want %v %d", x.rim, x.seen, l, e, x.want, x.e)
		}
	}
}

// P13.5: bars and rings of all lengths that are stated.
func TestBarsAndRings(t *testing.T) {
	for i, x := range []struct {
		bars []string
		ring string
	}{
		{rows("0", "1"), "01"},
		{rows("01"), "0011"},
		{rows("001", "011"), "00010111"},
		{rows("0001", "0011", "0111"), "0000100110101111"},
		{rows("00001", "00011", "00101", "00111", "01011", "01111"), "00000100011001010011101011011111"},
		{rows("000001", "000011", "000101", "000111", "001011", "001101", "001111", "010111", "011111"), "0000001000011000101000111001001011001101001111010101110110111111"},
	} {
		if l, e := swing.Bars(i + 1); !slices.Equal(l, x.bars) || e != api.OK {
			t.Errorf("Bars(%d) = %q %d, want %q", i+1, l, e, x.bars)
		}
		if s, e := swing.Ring(i + 1); s != x.ring || e != api.OK {
			t.Errorf("Ring(%d) = %s %d, want %s", i+1, s, e, x.ring)
		}
	}
}

// P13.6: numbers of rims, up to the longest ones.
func TestRims(t *testing.T) {
	for i, want := range list(2, 3, 4, 6, 8, 14, 20, 36, 60, 108, 188, 352, 632, 1182, 2192, 4116) {
		if n, e := swing.Rims(i + 1); n != want || e != api.OK {
			t.Errorf("Rims(%d) = %d %d, want %d", i+1, n, e, want)
		}
	}
	if n, e := swing.Rims(40); n != 27487816992 || e != api.OK {
		t.Errorf("Rims(40) = %d %d", n, e)
	}
}

// P13.5, P13.6: lengths and orders that are out of their bounds.
func TestBadLengths(t *testing.T) {
	for _, n := range list(math.MinInt, -1<<32, -64, -6, -1, 0, 7, 8, 12, 40, 41, 42, 64, 1<<32+1, 1<<50, math.MaxInt) {
		q := question{rim: "01", seen: "0", length: n, order: n, marks: n}
		got := q.errors(t)
		rims := api.ErrRange
		if n >= 1 && n <= 40 {
			rims = api.OK
		}
		if want := []api.Errno{api.ErrRange, api.ErrRange, rims}; !slices.Equal(got[5:], want) {
			t.Errorf("%d: %v, want %v", n, got[5:], want)
		}
	}
}
