package keys_test

import (
	"math"
	"slices"
	"testing"

	"agonic/api"
	"agonic/keys"
)

// Limits: the chapter's limits, and what is certain of a thing.
func TestLimits(t *testing.T) {
	limits := list(keys.MaxThings, keys.MaxRules, keys.MaxGiven, keys.MaxChain, keys.MaxCount, keys.No, keys.Yes, keys.Open)
	if !slices.Equal(limits, list(24, 80, 24, 100, 14, 0, 1, 2)) {
		t.Errorf("limits %v", limits)
	}
}

// question is what functions are asked about a book.
type question struct {
	b           keys.Book
	values      []bool
	given       []keys.Case
	from, to    keys.Case
	there, back []keys.Case
}

// errors returns the errors of all functions, and expects zero values beside them.
func (q question) errors(t *testing.T) []api.Errno {
	t.Helper()
	check := keys.Check(q.b)
	a, broken := keys.Broken(q.b, q.values)
	b, first := keys.First(q.b, q.given)
	c, certain := keys.Certain(q.b, q.given)
	d, chain := keys.Chain(q.b, q.from, q.to)
	e, f, clash := keys.Clash(q.b)
	g, spare := keys.Spare(q.b)
	n, count := keys.Count(q.b, q.given)
	verify, proves := keys.Verify(q.b, q.there), keys.Proves(q.b, q.there, q.back)
	if broken != 0 && len(a) > 0 || first != 0 && len(b) > 0 || certain != 0 && len(c) > 0 || chain != 0 && len(d) > 0 || clash != 0 && len(e)+len(f) > 0 || spare != 0 && len(g) > 0 || count != 0 && n != 0 {
		t.Errorf("%v, an error and %v, %v, %v, %v, %v %v, %v, %v", q, a, b, c, d, e, f, g, n)
	}
	return []api.Errno{check, broken, first, certain, chain, clash, verify, proves, spare, count}
}

// P10.1 to P10.7: the first error of a book, also with other errors behind it.
func TestBadBooks(t *testing.T) {
	many := slices.Repeat(book(1, "0 0").Rules, 81)
	thing := func(n int) keys.Rule { return rule(one("0"), keys.Case{Thing: n}) }
	for i, x := range []struct {
		b keys.Book
		e api.Errno
	}{
		{keys.Book{}, api.ErrRange},
		{book(-1, ""), api.ErrRange},
		{book(25, ""), api.ErrRange},
		{book(25, "0 24"), api.ErrRange},
		{book(math.MinInt, ""), api.ErrRange},
		{book(math.MaxInt, ""), api.ErrRange},
		{book(1<<32+1, "0 0"), api.ErrRange},
		{keys.Book{Rules: many}, api.ErrRange},
		{keys.Book{Things: 25, Rules: many}, api.ErrRange},
		{keys.Book{Things: 25, Rules: []keys.Rule{thing(-1)}}, api.ErrRange},
		{keys.Book{Things: 1, Rules: many}, api.ErrMany},
		{keys.Book{Things: 24, Rules: slices.Repeat(many, 3)}, api.ErrMany},
		{keys.Book{Things: 1, Rules: slices.Repeat([]keys.Rule{thing(1)}, 81)}, api.ErrMany},
		{book(1, "1 0"), api.ErrNone},
		{book(1, "0 -1"), api.ErrNone},
		{book(24, "24 0"), api.ErrNone},
		{book(3, "0 1, 1 2, 2 3"), api.ErrNone},
		{book(3, "0 0, -0 -0, 3 0"), api.ErrNone},
		{keys.Book{Things: 3, Rules: []keys.Rule{thing(-1)}}, api.ErrNone},
		{keys.Book{Things: 3, Rules: []keys.Rule{{A: keys.Case{Thing: -1, Is: true}, B: one("0")}}}, api.ErrNone},
		{keys.Book{Things: 3, Rules: []keys.Rule{thing(math.MinInt)}}, api.ErrNone},
		{keys.Book{Things: 3, Rules: []keys.Rule{thing(math.MaxInt)}}, api.ErrNone},
		{keys.Book{Things: 3, Rules: []keys.Rule{thing(1 << 32)}}, api.ErrNone},
		{keys.Book{Things: 1, Rules: slices.Concat(many[:79], []keys.Rule{thing(1)})}, api.ErrNone},
	} {
		for _, q := range []question{
			{b: x.b, values: values("000"), given: cases("0"), from: one("0"), to: one("0"), there: cases("0"), back: cases("0")},
			{b: x.b, given: slices.Repeat(cases("99"), 25), from: one("99"), to: one("-99")},
			{b: x.b, given: cases("0 -0"), there: cases("99"), back: slices.Repeat(cases("0"), 101)},
		} {
			for j, e := range q.errors(t) {
				if e != x.e {
					t.Errorf("book %d, function %d: %d, want %d", i, j, e, x.e)
				}
			}
		}
	}
}

// P10.1: the smallest and the greatest books, and rules of all kinds.
func TestGoodBooks(t *testing.T) {
	for i, b := range []keys.Book{example(), shut(), book(1, ""), book(24, ""), book(1, "0 0"), book(1, "0 -0"), book(1, "0 0, -0 -0"), book(24, "23 -23, 0 23"), {Things: 24, Rules: slices.Repeat(book(24, "0 -23").Rules, 80)}} {
		if e := keys.Check(b); e != api.OK {
			t.Errorf("book %d: %d", i, e)
		}
	}
}

// P10.1: rules that do not hold, and lists that are no values.
func TestBroken(t *testing.T) {
	for i, x := range []struct {
		b      keys.Book
		values []bool
		want   []int
		e      api.Errno
	}{
		{example(), values("000"), list(0), api.OK},
		{example(), values("001"), list(0), api.OK},
		{example(), values("110"), list(1, 2), api.OK},
		{example(), values("100"), list(1), api.OK},
		{example(), values("010"), list(2), api.OK},
		{example(), values("011"), nil, api.OK},
		{example(), values("111"), nil, api.OK},
		{shut(), values("111"), list(3), api.OK},
		{shut(), values("000"), list(0), api.OK},
		{book(1, "0 -0"), values("0"), nil, api.OK},
		{book(1, "0 -0"), values("1"), nil, api.OK},
		{book(1, "0 0, 0 0"), values("0"), list(0, 1), api.OK},
		{book(2, ""), values("01"), nil, api.OK},
		{example(), nil, nil, api.ErrShape},
		{example(), values("00"), nil, api.ErrShape},
		{example(), values("0000"), nil, api.ErrShape},
		{book(24, ""), make([]bool, 25), nil, api.ErrShape},
		{book(24, ""), make([]bool, 24), nil, api.OK},
	} {
		if l, e := keys.Broken(x.b, x.values); !slices.Equal(l, x.want) || e != x.e {
			t.Errorf("%d: Broken %v %d, want %v %d", i, l, e, x.want, x.e)
		}
	}
}

// P10.2, P10.7: the first truth, what is certain, and how many truths there are.
func TestTruths(t *testing.T) {
	const n, y, o = keys.No, keys.Yes, keys.Open
	ring := book(3, "-0 1, -1 2, -2 0")
	for i, x := range []struct {
		b       keys.Book
		given   string
		first   string
		certain []int
		count   int
	}{
		{example(), "", "011", list(o, o, y), 3},
		{example(), "-1", "101", list(y, n, y), 1},
		{example(), "-0", "011", list(n, y, y), 1},
		{example(), "0", "101", list(y, o, y), 2},
		{example(), "2", "011", list(o, o, y), 3},
		{example(), "0 1", "111", list(y, y, y), 1},
		{example(), "1 1 2 1", "011", list(o, y, y), 2},
		{book(1, ""), "", "0", list(o), 2},
		{book(1, ""), "0", "1", list(y), 1},
		{book(1, ""), "-0", "0", list(n), 1},
		{book(1, "0 0"), "", "1", list(y), 1},
		{book(1, "-0 -0"), "", "0", list(n), 1},
		{book(1, "0 -0"), "", "0", list(o), 2},
		{book(3, ""), "1", "010", list(o, y, o), 4},
		{ring, "", "000", list(o, o, o), 2},
		{ring, "2", "111", list(y, y, y), 1},
		{ring, "-0", "000", list(n, n, n), 1},
		// Both cases of a thing lead to a case of another one.
		{book(4, "0 1, 0 -1, 2 3, -2 -3"), "", "1001", list(y, o, o, o), 4},
		{book(2, "0 1"), "", "01", list(o, o), 3},
		{book(2, "0 1"), "-1", "10", list(y, n), 1},
		{row(24), "23", "000000000000000000000001", append(slices.Repeat(list(o), 23), y), 0},
		{row(24), "0", "111111111111111111111111", slices.Repeat(list(y), 24), 0},
		{row(24), "-23", "000000000000000000000000", slices.Repeat(list(n), 24), 0},
		{row(14), "", "00000000000000", slices.Repeat(list(o), 14), 15},
		{book(14, ""), "", "00000000000000", slices.Repeat(list(o), 14), 16384},
		{book(14, ""), "0 -13", "10000000000000", slices.Concat(list(y), slices.Repeat(list(o), 12), list(n)), 4096},
	} {
		count, over := x.count, api.OK
		if x.b.Things > keys.MaxCount {
			count, over = 0, api.ErrOver
		}
		v, e := keys.First(x.b, cases(x.given))
		c, f := keys.Certain(x.b, cases(x.given))
		m, g := keys.Count(x.b, cases(x.given))
		if !slices.Equal(v, values(x.first)) || e != api.OK || !slices.Equal(c, x.certain) || f != api.OK || m != count || g != over {
			t.Errorf("%d: First %v %d, Certain %v %d, Count %d %d", i, v, e, c, f, m, g)
		}
	}
}

// P10.2, P10.7: no truth agrees, for each of the reasons.
func TestNoTruth(t *testing.T) {
	for i, x := range []struct {
		b     keys.Book
		given string
	}{
		{shut(), ""},
		{example(), "-2"},
		{example(), "0 -0"},
		{example(), "2 1 -2"},
		{example(), "-0 -1"},
		{book(1, ""), "0 -0"},
		{book(1, "0 -0"), "-0 0"},
		{book(1, "0 0, -0 -0"), ""},
		{book(1, "0 0, -0 -0"), "0"},
		{book(2, "0 1, -0 -1, 0 -1, -0 1"), ""},
		{book(3, "0 1, -0 2, -1 2, -2 -2, 0 -0"), ""},
		// The given cases have nothing to do with the rules that contradict each other.
		{book(3, "0 0, -0 -0"), "1 -2"},
		{book(4, "-0 1, -1 2, -2 3"), "0 -3"},
		{book(4, "-0 1, -1 2, -2 3"), "-3 0"},
		{book(4, "-0 1, -1 2, -2 -0"), "0"},
		{book(3, "-0 2, -1 -2"), "0 1"},
	} {
		v, e := keys.First(x.b, cases(x.given))
		c, f := keys.Certain(x.b, cases(x.given))
		n, g := keys.Count(x.b, cases(x.given))
		if len(v)+len(c)+n != 0 || e != api.ErrClash || f != api.ErrClash || g != api.OK {
			t.Errorf("%d: First %v %d, Certain %v %d, Count %d %d", i, v, e, c, f, n, g)
		}
	}
}

// P10.2, P10.7: errors of given cases, and of too many things for Count, in their order.
func TestBadGiven(t *testing.T) {
	thing := func(n int) []keys.Case { return []keys.Case{{Thing: n, Is: true}} }
	big := book(15, "0 0")
	for i, x := range []struct {
		b        keys.Book
		given    []keys.Case
		e, count api.Errno
	}{
		{example(), slices.Repeat(cases("0"), 24), api.OK, api.OK},
		{example(), slices.Repeat(cases("0"), 25), api.ErrMany, api.ErrMany},
		{example(), slices.Repeat(cases("99"), 25), api.ErrMany, api.ErrMany},
		{shut(), slices.Repeat(cases("0 -0"), 13), api.ErrMany, api.ErrMany},
		{big, slices.Repeat(cases("0"), 25), api.ErrMany, api.ErrMany},
		{example(), cases("3"), api.ErrNone, api.ErrNone},
		{example(), cases("0 1 -3"), api.ErrNone, api.ErrNone},
		{example(), cases("0 -0 3"), api.ErrNone, api.ErrNone},
		{shut(), cases("3"), api.ErrNone, api.ErrNone},
		{big, cases("15"), api.ErrNone, api.ErrNone},
		{example(), thing(-1), api.ErrNone, api.ErrNone},
		{example(), thing(math.MinInt), api.ErrNone, api.ErrNone},
		{example(), thing(math.MaxInt), api.ErrNone, api.ErrNone},
		{big, cases("0 14"), api.OK, api.ErrOver},
		{big, cases("-0"), api.ErrClash, api.ErrOver},
		{with(big, "-0 -0"), nil, api.ErrClash, api.ErrOver},
		{book(24, ""), nil, api.OK, api.ErrOver},
		{book(24, ""), slices.Repeat(cases("23"), 24), api.OK, api.ErrOver},
	} {
		got := question{b: x.b, given: x.given}.errors(t)
		if got[2] != x.e || got[3] != x.e || got[9] != x.count {
			t.Errorf("%d: First %d, Certain %d, Count %d, want %d, %d", i, got[2], got[3], got[9], x.e, x.count)
		}
	}
}

// P10.3: shortest chains, and cases that none leads to.
func TestChain(t *testing.T) {
	// There is a way over 1 and 2, and a shorter one over 3.
	two := book(5, "-0 1, -1 2, -2 4, 3 -0, 4 -3")
	for i, x := range []struct {
		b        keys.Book
		from, to string
		want     []string
		e        api.Errno
	}{
		{example(), "-0", "2", []string{"-0 1 2"}, api.OK},
		{example(), "2", "0", nil, api.ErrLost},
		{example(), "-2", "0", []string{"-2 -1 0"}, api.OK},
		{example(), "-2", "2", []string{"-2 -1 0 2", "-2 -0 1 2"}, api.OK},
		{example(), "0", "0", []string{"0"}, api.OK},
		{example(), "-2", "-2", []string{"-2"}, api.OK},
		{example(), "0", "-0", nil, api.ErrLost},
		{example(), "0", "1", nil, api.ErrLost},
		{shut(), "2", "-2", []string{"2 -2"}, api.OK},
		{shut(), "2", "2", []string{"2"}, api.OK},
		{shut(), "0", "1", []string{"0 2 -2 -0 1"}, api.OK},
		{two, "0", "4", []string{"0 3 4"}, api.OK},
		{two, "-4", "-0", []string{"-4 -3 -0"}, api.OK},
		{two, "0", "2", []string{"0 1 2"}, api.OK},
		{two, "4", "0", nil, api.ErrLost},
		{book(1, ""), "0", "0", []string{"0"}, api.OK},
		{book(1, ""), "0", "-0", nil, api.ErrLost},
		{book(1, "0 0"), "-0", "0", []string{"-0 0"}, api.OK},
		{book(1, "0 0"), "0", "-0", nil, api.ErrLost},
		{book(1, "0 -0"), "0", "-0", nil, api.ErrLost},
		{book(1, "0 -0"), "0", "0", []string{"0"}, api.OK},
		{book(2, "0 1"), "-0", "1", []string{"-0 1"}, api.OK},
		{book(2, "0 1"), "-1", "0", []string{"-1 0"}, api.OK},
		{book(2, "0 1"), "0", "1", nil, api.ErrLost},
		{row(24), "0", "23", []string{"0 1 2 3 4 5 6 7 8 9 10 11 12 13 14 15 16 17 18 19 20 21 22 23"}, api.OK},
		{example(), "3", "0", nil, api.ErrNone},
		{example(), "0", "-3", nil, api.ErrNone},
		{example(), "3", "3", nil, api.ErrNone},
		{book(24, ""), "0", "24", nil, api.ErrNone},
	} {
		l, e := keys.Chain(x.b, one(x.from), one(x.to))
		fits := slices.ContainsFunc(x.want, func(text string) bool { return slices.Equal(l, cases(text)) })
		if e != x.e || e == api.OK && !fits || e != api.OK && len(l) > 0 {
			t.Errorf("%d: Chain %v %d, want %v %d", i, l, e, x.want, x.e)
		}
	}
	for _, n := range list(-1, math.MinInt, math.MaxInt, 1<<32) {
		for _, x := range []question{{b: example(), from: keys.Case{Thing: n}}, {b: example(), to: keys.Case{Thing: n, Is: true}}} {
			if e := x.errors(t)[4]; e != api.ErrNone {
				t.Errorf("Chain with the thing %d: %d", n, e)
			}
		}
	}
}

// P10.5: chains, and lists that are none.
func TestVerify(t *testing.T) {
	round := book(1, "-0 0")
	for i, x := range []struct {
		b     keys.Book
		chain []keys.Case
		e     api.Errno
	}{
		{example(), cases("0"), api.OK},
		{example(), cases("-2"), api.OK},
		{example(), cases("-0 1 2"), api.OK},
		{example(), cases("-1 0 2"), api.OK},
		{example(), cases("-2 -0 1 2"), api.OK},
		{example(), cases("-2 -1 0 2"), api.OK},
		{shut(), cases("2 -2 -0 1 2 -2"), api.OK},
		{round, cases("0 0"), api.OK},
		{round, cases("-0 -0 -0"), api.OK},
		{round, slices.Repeat(cases("0"), 100), api.OK},
		{example(), nil, api.ErrEmpty},
		{round, slices.Repeat(cases("0"), 101), api.ErrMany},
		{example(), slices.Repeat(cases("0"), 101), api.ErrMany},
		{example(), slices.Repeat(cases("99"), 101), api.ErrMany},
		{example(), cases("3"), api.ErrNone},
		{example(), cases("-0 1 2 -3"), api.ErrNone},
		{example(), cases("0 1 2 3"), api.ErrNone},
		{example(), []keys.Case{{Thing: -1}}, api.ErrNone},
		{example(), []keys.Case{{Thing: math.MinInt}, {Thing: math.MaxInt}}, api.ErrNone},
		{example(), cases("0 0"), api.ErrLost},
		{example(), cases("-0 -0"), api.ErrLost},
		{example(), cases("0 -0"), api.ErrLost},
		{example(), cases("0 1"), api.ErrLost},
		{example(), cases("-0 -1"), api.ErrLost},
		{example(), cases("-0 2"), api.ErrLost},
		{example(), cases("2 0"), api.ErrLost},
		{example(), cases("-0 1 2 0"), api.ErrLost},
		{example(), cases("0 1 2"), api.ErrLost},
		{round, cases("0 -0"), api.ErrLost},
		{round, cases("-0 0"), api.ErrLost},
		{book(1, "0 0"), cases("-0 0"), api.OK},
		{book(1, "0 0"), cases("0 0"), api.ErrLost},
		{book(1, "0 0"), cases("0 -0"), api.ErrLost},
		{book(1, ""), cases("0 0"), api.ErrLost},
	} {
		if e := keys.Verify(x.b, x.chain); e != x.e || trueVerify(x.b, x.chain) != x.e {
			t.Errorf("%d: Verify %d, want %d", i, e, x.e)
		}
	}
}

// P10.4: proofs, and chains that prove nothing.
func TestProves(t *testing.T) {
	long := slices.Repeat(cases("0 -0"), 50)
	both := book(1, "0 0, -0 -0")
	for i, x := range []struct {
		b           keys.Book
		there, back []keys.Case
		e           api.Errno
	}{
		{shut(), cases("2 -2"), cases("-2 -1 0 2"), api.OK},
		{shut(), cases("-2 -0 1 2"), cases("2 -2"), api.OK},
		{shut(), cases("0 2 -2 -0"), cases("-0 1 2 -2 -1 0"), api.OK},
		{both, cases("0 -0"), cases("-0 0"), api.OK},
		{both, long, slices.Concat(long[1:], cases("0")), api.OK},
		{shut(), nil, cases("99"), api.ErrEmpty},
		{shut(), nil, slices.Repeat(cases("0"), 101), api.ErrEmpty},
		{shut(), slices.Repeat(cases("99"), 101), nil, api.ErrMany},
		{shut(), cases("3"), nil, api.ErrNone},
		{shut(), cases("2 2"), nil, api.ErrLost},
		{example(), cases("2 -2"), cases("-2 -1 0 2"), api.ErrLost},
		{shut(), cases("2 -2"), nil, api.ErrEmpty},
		{shut(), cases("2 -2"), slices.Repeat(cases("0"), 101), api.ErrMany},
		{shut(), cases("2 -2"), cases("-2 -1 0 3"), api.ErrNone},
		{shut(), cases("2 -2"), cases("-2 2"), api.ErrLost},
		// Chains that do not lead to the contrary, or not back.
		{shut(), cases("2"), cases("2"), api.ErrProof},
		{shut(), cases("2 -2 -1"), cases("-1 0 2"), api.ErrProof},
		{shut(), cases("2 -2"), cases("2 -2"), api.ErrProof},
		{shut(), cases("2 -2"), cases("-2"), api.ErrProof},
		{shut(), cases("2 -2"), cases("2"), api.ErrProof},
		{shut(), cases("2 -2"), cases("-2 -1 0"), api.ErrProof},
		{shut(), cases("2 -2"), cases("-0 1 2"), api.ErrProof},
		{shut(), cases("2 -2"), cases("-0 1 2 -2 -1 0"), api.ErrProof},
		{shut(), cases("2 -2"), cases("-1 0 2 -2"), api.ErrProof},
		{example(), cases("-2 -1 0 2"), cases("2"), api.ErrProof},
		{example(), cases("-2 -1 0 2"), cases("-2 -1 0 2"), api.ErrProof},
	} {
		if e := keys.Proves(x.b, x.there, x.back); e != x.e || trueProves(x.b, x.there, x.back) != x.e {
			t.Errorf("%d: Proves %d, want %d", i, e, x.e)
		}
	}
}

// P10.4: books that are not possible have a proof, and others have none.
func TestClash(t *testing.T) {
	end := with(row(24), "-0 -23, 0 23")
	for i, b := range []keys.Book{shut(), book(1, "0 0, -0 -0"), book(1, "-0 -0, 0 0"), book(2, "0 1, -0 -1, 0 -1, -0 1"), book(24, "22 23, 22 -23, -22 23, -22 -23"), with(end, "-23 0, 23 23, -0 -0"), book(4, "-0 1, -1 2, -2 -0, 0 3, -3 0")} {
		there, back, e := keys.Clash(b)
		if e != api.OK || len(there) > keys.MaxChain || len(back) > keys.MaxChain || trueProves(b, there, back) != api.OK {
			t.Errorf("%d: Clash %v %v %d", i, there, back, e)
		}
	}
	// The last ones lead from a case to its contrary, but not back.
	for i, b := range []keys.Book{example(), book(1, ""), book(24, ""), book(1, "0 -0"), row(24), end, book(1, "0 0"), book(1, "-0 -0"), book(2, "0 1, 0 -1")} {
		if there, back, e := keys.Clash(b); len(there)+len(back) != 0 || e != api.ErrNone {
			t.Errorf("%d: Clash %v %v %d", i, there, back, e)
		}
	}
}

// P10.6: rules that follow from others, from themselves, or from rules that contradict each other.
func TestSpare(t *testing.T) {
	for i, x := range []struct {
		b    keys.Book
		want []int
	}{
		{example(), nil},
		{with(example(), "2 2"), list(1, 2, 3)},
		{shut(), nil},
		{book(1, ""), nil},
		{book(1, "0 0"), nil},
		{book(1, "0 -0"), list(0)},
		{book(1, "-0 0, 0 0"), list(0)},
		{book(2, "0 1, 1 0"), list(0, 1)},
		{book(2, "0 1, 0 1, 0 -1"), list(0, 1)},
		{book(2, "0 0, 0 1"), list(1)},
		{book(2, "0 1, 0 -1, 0 0"), list(0, 1, 2)},
		{book(3, "-0 1, -1 2, -0 2"), list(2)},
		{book(3, "-0 2, -0 1, -1 2"), list(0)},
		{book(3, "-0 1, -1 2, -2 0, -1 0"), list(3)},
		{book(1, "0 0, -0 -0"), nil},
		// Without one of these, the others contradict each other.
		{book(1, "0 0, -0 -0, 0 0"), list(0, 2)},
		{book(2, "0 0, -0 -0, 1 1"), list(2)},
		{book(2, "0 0, -0 -0, 1 1, -1 -1"), list(0, 1, 2, 3)},
		{book(24, "22 23, 22 23"), list(0, 1)},
	} {
		if l, e := keys.Spare(x.b); !slices.Equal(l, x.want) || e != api.OK {
			t.Errorf("%d: Spare %v %d, want %v", i, l, e, x.want)
		}
	}
}
