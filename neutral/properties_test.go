package neutral_test

import (
	"slices"
	"testing"

	"agonic/api"
	"agonic/neutral"
)

// P11.2: signs are those of values computed with fractions.
func TestSignsOfValues(t *testing.T) {
	d := dice{1}
	count := [3]int{}
	for range 20000 {
		p := d.polynomial()
		x := d.argument(p)
		n, e := neutral.Sign(p, x)
		if want := signAt(p, exactly(x)); n != want || e != api.OK {
			t.Fatalf("Sign(%v, %v) = %d %d, want %d", p, x, n, e, want)
		}
		count[n+1]++
	}
	if slices.Min(count[:]) < 1000 {
		t.Errorf("too few of one kind: %v", count)
	}
}

// P11.3: cores by the formulas for roots that occur several times, and chains by divisions
// with fractions.
func TestChainsByDivision(t *testing.T) {
	count := map[int]int{}
	everyKind(2, func(p []int) {
		core, e := neutral.Core(p)
		chain, f := neutral.Chain(p)
		want := trueChain(p)
		if !slices.Equal(core, want[0]) || e != api.OK || !slices.EqualFunc(chain, want, slices.Equal[[]int]) || f != api.OK {
			t.Fatalf("%v: Core %v %d, Chain %v %d, want %v", p, core, e, chain, f, want)
		}
		count[len(p)-len(core)]++
	})
	if count[0] < 1000 || count[1] < 500 || count[2] < 50 {
		t.Errorf("too few of one kind: %v", count)
	}
}

// P11.3, P11.4: changes of the true chain.
func TestChangesOfChains(t *testing.T) {
	d := dice{3}
	count := map[int]int{}
	for range 10000 {
		p := d.polynomial()
		x := d.argument(p)
		n, e := neutral.Changes(p, x)
		if want := trueChanges(trueChain(p), x); n != want || e != api.OK {
			t.Fatalf("Changes(%v, %v) = %d %d, want %d", p, x, n, e, want)
		}
		count[n]++
	}
	for n := range 4 {
		if count[n] < 200 {
			t.Errorf("too few of one kind: %v", count)
		}
	}
}

// P11.4, P11.6 to P11.10: Count is the number of roots between the places where a polynomial
// can turn, and the changes that its chain loses; Fourier is what its derivatives lose, and
// at least the roots, each as often as it occurs, and more by an even number; the roots
// between two values that are not 0 tell whether these have one sign.
func TestCountBetween(t *testing.T) {
	d := dice{4}
	more, empty, several := 0, 0, 0
	for range 10000 {
		p := d.polynomial()
		ends := d.ordered(p, 2)
		a, b := ends[0], ends[1]
		count, fourier := sizes(t, p, a, b)
		want := trueRoots(p, a, b)
		before, _ := neutral.Changes(p, a)
		after, _ := neutral.Changes(p, b)
		if count != len(want) || count != before-after {
			t.Fatalf("Count(%v, %v, %v) = %d, want %v, changes %d, %d", p, a, b, count, want, before, after)
		}
		all := 0
		for _, n := range want {
			all += n
		}
		if bound := trueChanges(derivatives(p), a) - trueChanges(derivatives(p), b); fourier != bound || fourier < all || (fourier-all)%2 != 0 {
			t.Fatalf("Fourier(%v, %v, %v) = %d, want %d; roots %v", p, a, b, fourier, bound, want)
		}
		s, _ := neutral.Sign(p, a)
		r, _ := neutral.Sign(p, b)
		if s != 0 && r != 0 && (s != r) != (all%2 == 1) {
			t.Fatalf("%v has the signs %d, %d at %v, %v, and %d roots", p, s, r, a, b, all)
		}
		if fourier > all {
			more++
		}
		if count == 0 {
			empty++
		}
		if all > count {
			several++
		}
	}
	if more < 500 || empty < 1000 || several < 500 {
		t.Errorf("too few of one kind: %d %d %d", more, empty, several)
	}
}

// P11.9: roots between two fractions, and between the second and a third one.
func TestAdded(t *testing.T) {
	d := dice{5}
	for range 5000 {
		p := d.polynomial()
		x := d.ordered(p, 3)
		n, f := sizes(t, p, x[0], x[1])
		m, g := sizes(t, p, x[1], x[2])
		both, h := sizes(t, p, x[0], x[2])
		if n+m != both || f+g != h {
			t.Fatalf("%v, %v: Count %d and %d, together %d; Fourier %d and %d, together %d", p, x, n, m, both, f, g, h)
		}
	}
}

// P11.5, P11.10: each root is at most Up, and greater than the hundredth before it; it
// occurs as often as derivatives are 0 there; all of them lie between -51 and 51.
func TestRootsInHundredths(t *testing.T) {
	const far = neutral.MaxNum
	near, several := 0, 0
	everyKind(6, func(p []int) {
		l := found(t, p)
		want := trueRoots(p, part(-far, 1), part(far, 1))
		inside := trueRoots(p, part(-51, 1), part(51, 1))
		if len(l) != len(want) || !slices.Equal(want, inside) || signAt(p, exactly(part(51, 1))) == 0 {
			t.Fatalf("%v: Roots %v, want %v, between -51 and 51 %v", p, l, want, inside)
		}
		for i, r := range l {
			least := len(trueRoots(p, part(-far, 1), hundredths(r.Up-1)))
			most := len(trueRoots(p, part(-far, 1), hundredths(r.Up)))
			if r.Times != want[i] || i < least || i >= most {
				t.Fatalf("%v: Roots %v, want %v; up to %d there are %d, before it %d", p, l, want, r.Up, most, least)
			}
			if most-least > 1 {
				near++
			}
			if r.Times > 1 {
				several++
			}
		}
	})
	if near < 40 || several < 1000 {
		t.Errorf("too few of one kind: %d %d", near, several)
	}
}

// P11.11: odd degrees have a root, Times are together the degree or less by an even number,
// and the core has the same roots, each of them once.
func TestAllRoots(t *testing.T) {
	everyKind(7, func(p []int) {
		l := found(t, p)
		less := len(p) - 1 - degree(l)
		if less < 0 || less%2 != 0 || len(p)%2 == 0 && len(l) == 0 {
			t.Fatalf("%v: Roots %v", p, l)
		}
		core, _ := neutral.Core(p)
		if neutral.Check(core) != api.OK {
			t.Fatalf("%v has the core %v", p, core)
		}
		for i := range l {
			l[i].Times = 1
		}
		if same := found(t, core); !slices.Equal(l, same) {
			t.Fatalf("%v: Roots %v, those of its core %v", p, l, same)
		}
		if again, _ := neutral.Core(core); !slices.Equal(core, again) {
			t.Fatalf("%v has the core %v, and this %v", p, core, again)
		}
	})
}

// P11.12, G5: a multiple of a polynomial has the same core, chain, roots and counts.
func TestScaled(t *testing.T) {
	d := dice{8}
	tried := 0
	everyKind(9, func(p []int) {
		n := d.pick(-1, 2, -3, 4, 50)
		q := product(p, list(n))
		if trueCheck(q) != api.OK {
			return
		}
		tried++
		x := d.ordered(p, 2)
		chain, _ := neutral.Chain(p)
		same, _ := neutral.Chain(q)
		core, _ := neutral.Core(q)
		if !slices.EqualFunc(chain, same, slices.Equal[[]int]) || !slices.Equal(core, chain[0]) || !slices.Equal(found(t, p), found(t, q)) {
			t.Fatalf("%v: Chain %v, Roots %v; %d times %v, %v, core %v", p, chain, found(t, p), n, same, found(t, q), core)
		}
		before, _ := neutral.Changes(p, x[0])
		after, _ := neutral.Changes(q, x[0])
		count, fourier := sizes(t, p, x[0], x[1])
		other, bound := sizes(t, q, x[0], x[1])
		if before != after || count != other || fourier != bound {
			t.Fatalf("%v, %v: %d %d %d, %d times %d %d %d", p, x, before, count, fourier, n, after, other, bound)
		}
	})
	if tried < 2000 {
		t.Errorf("too few multiples: %d", tried)
	}
}

// P11.12, G5: a mirrored polynomial has the negative roots, in the opposite order. Up of the
// negative of a root is its negative if the root is just at Up, and greater by 1 if not.
func TestMirrored(t *testing.T) {
	d := dice{10}
	everyKind(11, func(p []int) {
		q := mirrored(p)
		l, m := found(t, p), found(t, q)
		slices.Reverse(m)
		want := slices.Clone(l)
		for i, r := range l {
			last := i+1 == len(l) || l[i+1].Up > r.Up
			want[i].Up = 1 - r.Up
			if last && signAt(p, exactly(hundredths(r.Up))) == 0 {
				want[i].Up = -r.Up
			}
		}
		if !slices.Equal(m, want) {
			t.Fatalf("%v: Roots %v, mirrored %v", p, l, m)
		}
		x := d.ordered(p, 2)
		count, _ := sizes(t, p, x[0], x[1])
		other, _ := sizes(t, q, negative(x[1]), negative(x[0]))
		for i, change := range list(-1, 1) {
			if n, _ := neutral.Sign(p, x[i]); n == 0 {
				other += change
			}
		}
		if count != other {
			t.Fatalf("%v, %v: Count %d, mirrored %d", p, x, count, other)
		}
	})
}

// G5: fractions that are not reduced have the same results as those that are.
func TestReduced(t *testing.T) {
	d := dice{12}
	for range 3000 {
		p := d.polynomial()
		x := d.argument(p)
		n := d.roll(2, 7)
		y := part(n*x.Num, n*x.Den)
		if !isArgument(y) {
			continue
		}
		a, _ := neutral.Sign(p, x)
		b, _ := neutral.Sign(p, y)
		before, _ := neutral.Changes(p, x)
		after, _ := neutral.Changes(p, y)
		count, fourier := sizes(t, p, x, y)
		if a != b || before != after || count != 0 || fourier != 0 {
			t.Fatalf("%v at %v: %d %d, at %v: %d %d, between them %d %d", p, x, a, before, y, b, after, count, fourier)
		}
	}
}

// R5: with the largest coefficients and arguments nothing overflows.
func TestLargeNumbers(t *testing.T) {
	d := dice{13}
	for range 5000 {
		var p []int
		for range d.roll(2, 4) {
			p = append(p, d.pick(-1, 1)*(neutral.MaxFactor-d.pick(0, 0, 1, 2, 7)))
		}
		far := part(d.pick(-1, 1)*(neutral.MaxNum-d.roll(0, 2)), d.pick(1, 2, 999, 1000))
		chain := trueChain(p)
		n, _ := neutral.Sign(p, far)
		m, _ := neutral.Changes(p, far)
		got, _ := neutral.Chain(p)
		if n != signAt(p, exactly(far)) || m != trueChanges(chain, far) || !slices.EqualFunc(got, chain, slices.Equal[[]int]) {
			t.Fatalf("%v at %v: Sign %d, Changes %d, Chain %v, want %v", p, far, n, m, got, chain)
		}
	}
}
