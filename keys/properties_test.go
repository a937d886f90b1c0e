package keys_test

import (
	"slices"
	"testing"

	"agonic/api"
	"agonic/keys"
)

// everyBook calls a function with all books of two things and up to three rules, and with
// many books of few things.
func everyBook(d *dice, see func(keys.Book)) {
	var rules []keys.Rule
	all := everyCase(keys.Book{Things: 2})
	for _, x := range all {
		for _, y := range all {
			rules = append(rules, rule(x, y))
		}
	}
	see(keys.Book{Things: 2})
	for _, x := range rules {
		see(keys.Book{Things: 2, Rules: []keys.Rule{x}})
		for _, y := range rules {
			see(keys.Book{Things: 2, Rules: []keys.Rule{x, y}})
			for _, z := range rules {
				see(keys.Book{Things: 2, Rules: []keys.Rule{x, y, z}})
			}
		}
	}
	for range 4000 {
		see(d.small())
	}
}

// isPossible reports whether Count finds truths of a book with few things.
func isPossible(t *testing.T, b keys.Book) bool {
	t.Helper()
	n, e := keys.Count(b, nil)
	if e != api.OK {
		t.Fatalf("Count(%v): %d", b, e)
	}
	return n > 0
}

// ask returns what First, Certain and Count return, all of which have to agree about ErrClash.
func ask(t *testing.T, b keys.Book, given ...keys.Case) (first []bool, certain []int, count int) {
	t.Helper()
	first, e := keys.First(b, given)
	certain, f := keys.Certain(b, given)
	count, g := keys.Count(b, given)
	want := api.OK
	if count == 0 {
		want = api.ErrClash
	}
	if e != want || f != want || g != api.OK {
		t.Fatalf("%v with %v: First %d, Certain %d, Count %d %d", b, given, e, f, count, g)
	}
	return first, certain, count
}

// P10.1: the rules that do not hold are those of which no case is true.
func TestBrokenAgainstDefinition(t *testing.T) {
	d := dice{1}
	everyBook(&d, func(b keys.Book) {
		bits := d.roll(0, 1<<b.Things-1)
		var want []int
		for i, r := range b.Rules {
			if !holds(r, bits) {
				want = append(want, i)
			}
		}
		if l, e := keys.Broken(b, spread(b, bits)); !slices.Equal(l, want) || e != api.OK {
			t.Fatalf("Broken(%v, %b) = %v %d, want %v", b, bits, l, e, want)
		}
	})
}

// P10.2, P10.7, G1, G3: what is returned of truths is so in an enumeration of all of them.
func TestTruthsAgainstDefinition(t *testing.T) {
	d := dice{2}
	count := map[bool]int{}
	everyBook(&d, func(b keys.Book) {
		given := d.some(b, d.pick(0, 1, 1, 2, 3))
		all := truths(b, given...)
		first, certain, n := ask(t, b, given...)
		count[n > 0]++
		if n != len(all) {
			t.Fatalf("Count(%v, %v) = %d, want %d", b, given, n, len(all))
		}
		if n > 0 && (!slices.Equal(first, firstOf(b, all)) || !slices.Equal(certain, certainIn(b, all))) {
			t.Fatalf("%v with %v: First %v, Certain %v, want %v, %v", b, given, first, certain, firstOf(b, all), certainIn(b, all))
		}
	})
	if min(count[true], count[false]) < 1000 {
		t.Errorf("too few of one kind: %v", count)
	}
}

// P10.7: as many truths as an enumeration finds, with as many things as are allowed.
func TestManyTruths(t *testing.T) {
	d := dice{3}
	for range 60 {
		things := d.roll(10, 14)
		b := d.book(things, d.roll(0, things))
		given := d.some(b, d.roll(0, 3))
		if n, e := keys.Count(b, given); n != len(truths(b, given...)) || e != api.OK {
			t.Fatalf("Count(%v, %v) = %d %d", b, given, n, e)
		}
	}
}

// P10.2, P10.9, G3: in books with many things, truths are the first ones, and what is
// certain is so as trying finds out.
func TestLargeBooks(t *testing.T) {
	d := dice{4}
	count := map[api.Errno]int{}
	for range 150 {
		b := d.large()
		given := d.some(b, d.roll(0, 4))
		v, e := keys.First(b, given)
		c, f := keys.Certain(b, given)
		want := firstByTrying(b, given)
		count[e]++
		if !slices.Equal(v, want) || e != f || (e == api.OK) != (want != nil) || e != api.OK && e != api.ErrClash {
			t.Fatalf("First(%v, %v) = %v %d, want %v", b, given, v, e, want)
		}
		for i, n := range c {
			so := firstByTrying(b, append(slices.Clip(given), keys.Case{Thing: i, Is: true}))
			not := firstByTrying(b, append(slices.Clip(given), keys.Case{Thing: i}))
			if (so != nil) != (n != keys.No) || (not != nil) != (n != keys.Yes) {
				t.Fatalf("Certain(%v, %v) = %v, not so of %d", b, given, c, i)
			}
		}
	}
	if min(count[api.OK], count[api.ErrClash]) < 30 {
		t.Errorf("too few of one kind: %v", count)
	}
}

// G1: what is certain remains so if more is given.
func TestMoreGiven(t *testing.T) {
	d := dice{5}
	count := 0
	for range 3000 {
		b := d.small()
		given := d.some(b, 4)
		_, before, _ := ask(t, b, given[:1]...)
		_, after, n := ask(t, b, given...)
		for i := range after {
			if before[i] != keys.Open && before[i] != after[i] {
				t.Fatalf("%v with %v: %v, and %v with the first of them only", b, given, after, before)
			}
		}
		if n > 0 {
			count++
		}
	}
	if count < 300 {
		t.Errorf("too few with truths: %d", count)
	}
}

// P10.3: chains are as short as can be, and lead where chains lead.
func TestChainAgainstDefinition(t *testing.T) {
	d := dice{6}
	see := func(b keys.Book) {
		want := sizes(b)
		for _, x := range everyCase(b) {
			for _, y := range everyCase(b) {
				l, e := keys.Chain(b, x, y)
				n := want[pair{x, y}]
				if len(l) != n || (e == api.OK) != (n > 0) || e != api.OK && e != api.ErrLost {
					t.Fatalf("Chain(%v, %v, %v) = %v %d, want %d cases", b, x, y, l, e, n)
				}
				if n > 0 && (l[0] != x || l[n-1] != y || trueVerify(b, l) != api.OK) {
					t.Fatalf("Chain(%v, %v, %v) = %v", b, x, y, l)
				}
			}
		}
	}
	everyBook(&d, see)
	for range 20 {
		see(d.large())
	}
}

// P10.4, P10.8, G4: either there is a truth, or there is a proof that there is none.
func TestClashAgainstDefinition(t *testing.T) {
	d := dice{7}
	count := map[api.Errno]int{}
	see := func(b keys.Book, possible bool) {
		there, back, e := keys.Clash(b)
		count[e]++
		if possible {
			if len(there)+len(back) > 0 || e != api.ErrNone {
				t.Fatalf("Clash(%v) = %v %v %d", b, there, back, e)
			}
			return
		}
		proves := keys.Proves(b, there, back)
		if e != api.OK || proves != api.OK || trueProves(b, there, back) != api.OK {
			t.Fatalf("Clash(%v) = %v %v %d, Proves %d", b, there, back, e, proves)
		}
	}
	everyBook(&d, func(b keys.Book) { see(b, len(truths(b)) > 0) })
	for range 300 {
		b := d.large()
		see(b, firstByTrying(b, nil) != nil)
	}
	if min(count[api.OK], count[api.ErrNone]) < 1000 {
		t.Errorf("too few of one kind: %v", count)
	}
}

// P10.8: a book is not possible just if chains lead from a case to its contrary and back.
func TestBothSides(t *testing.T) {
	d := dice{8}
	everyBook(&d, func(b keys.Book) {
		both := false
		for _, x := range everyCase(b) {
			_, e := keys.Chain(b, x, contrary(x))
			_, f := keys.Chain(b, contrary(x), x)
			both = both || e == api.OK && f == api.OK
		}
		if both == isPossible(t, b) {
			t.Fatalf("%v: chains both ways: %t, possible: %t", b, both, !both)
		}
	})
}

// P10.4, P10.5, P10.8, G4: Verify and Proves accept what the definitions do, and no book
// is possible for which Proves accepts chains.
func TestProvesAgainstDefinition(t *testing.T) {
	d := dice{9}
	count, chains := map[api.Errno]int{}, map[api.Errno]int{}
	for range 30000 {
		things := d.roll(1, 3)
		b := d.book(things, d.roll(1, 3*things))
		x := d.someCase(b)
		there := d.walk(b, x, d.roll(1, 5))
		back := d.walk(b, there[len(there)-1], d.roll(1, 5))
		if d.roll(0, 3) == 0 {
			there[d.roll(0, len(there)-1)] = d.someCase(b)
		}
		switch d.roll(0, 9) {
		case 0:
			there = there[1:]
		case 1:
			back[d.roll(0, len(back)-1)].Thing = d.pick(-1, 0, things-1, things)
		case 2:
			back = slices.Repeat(back, d.roll(0, 40))
		}
		verify, proves := keys.Verify(b, there), keys.Proves(b, there, back)
		if verify != trueVerify(b, there) || proves != trueProves(b, there, back) {
			t.Fatalf("%v: Verify(%v) = %d, Proves with %v: %d", b, there, verify, back, proves)
		}
		if proves == api.OK && isPossible(t, b) {
			t.Fatalf("%v is possible, in spite of %v, %v", b, there, back)
		}
		count[proves]++
		chains[verify]++
	}
	for _, e := range []api.Errno{api.OK, api.ErrEmpty, api.ErrMany, api.ErrNone, api.ErrProof, api.ErrLost} {
		if count[e] < 100 {
			t.Errorf("too few of one kind: %v %v", count, chains)
		}
	}
	if min(chains[api.OK], chains[api.ErrLost]) < 1000 {
		t.Errorf("too few chains of one kind: %v", chains)
	}
}

// P10.9: in a possible book a case is certain just if a chain leads from its contrary to it.
func TestCertainByChains(t *testing.T) {
	d := dice{10}
	see := func(b keys.Book) {
		certain, e := keys.Certain(b, nil)
		for i, n := range certain {
			not, so := keys.Case{Thing: i}, keys.Case{Thing: i, Is: true}
			_, yes := keys.Chain(b, not, so)
			_, no := keys.Chain(b, so, not)
			if (n == keys.Yes) != (yes == api.OK) || (n == keys.No) != (no == api.OK) || e != api.OK {
				t.Fatalf("%v: Certain %v, chains to %d: %d, to -%d: %d", b, certain, i, yes, i, no)
			}
		}
	}
	everyBook(&d, see)
	for range 200 {
		things := d.roll(15, 24)
		see(d.possible(things, d.roll(0, 80), d.roll(0, 1<<things-1)))
	}
}

// P10.10: chains lead back between contraries, and what is true leads to what is true.
func TestContraries(t *testing.T) {
	d := dice{11}
	everyBook(&d, func(b keys.Book) {
		all := truths(b)
		x, y := d.someCase(b), d.someCase(b)
		l, e := keys.Chain(b, x, y)
		m, f := keys.Chain(b, contrary(y), contrary(x))
		if len(l) != len(m) || e != f {
			t.Fatalf("%v: from %v to %v %v, between their contraries %v", b, x, y, l, m)
		}
		for _, bits := range all {
			for i := range l {
				if isTrue(x, bits) && !isTrue(l[i], bits) {
					t.Fatalf("%v: %v is a chain, %b a truth", b, l, bits)
				}
			}
		}
		// A chain of any size, and its contrary.
		walk := d.walk(b, x, d.roll(1, 9))
		var turned []keys.Case
		for _, c := range slices.Backward(walk) {
			turned = append(turned, contrary(c))
		}
		if keys.Verify(b, walk) != api.OK || keys.Verify(b, turned) != api.OK {
			t.Fatalf("%v: %v is a chain, %v its contrary", b, walk, turned)
		}
	})
}

// P10.11: given cases agree with some truth unless a chain leads from one of them to the
// contrary of one of them.
func TestGivenByChains(t *testing.T) {
	d := dice{12}
	count := map[bool]int{}
	everyBook(&d, func(b keys.Book) {
		if !isPossible(t, b) {
			return
		}
		given := d.some(b, d.roll(1, 4))
		leads := false
		for _, x := range given {
			for _, y := range given {
				_, e := keys.Chain(b, x, contrary(y))
				leads = leads || e == api.OK
			}
		}
		_, _, n := ask(t, b, given...)
		if leads == (n > 0) {
			t.Fatalf("%v: %d truths with %v, chains between them: %t", b, n, given, leads)
		}
		count[leads]++
	})
	if min(count[true], count[false]) < 1000 {
		t.Errorf("too few of one kind: %v", count)
	}
}

// P10.6, P10.12: spare rules are those without which the truths are the same.
func TestSpareAgainstDefinition(t *testing.T) {
	d := dice{13}
	see := func(b keys.Book) {
		spare, e := keys.Spare(b)
		if want := spareOf(b); !slices.Equal(spare, want) || e != api.OK {
			t.Fatalf("Spare(%v) = %v %d, want %v", b, spare, e, want)
		}
		n, _ := keys.Count(b, nil)
		for i := range b.Rules {
			m, _ := keys.Count(without(b, i), nil)
			if slices.Contains(spare, i) != (m == n) || m < n {
				t.Fatalf("%v has %d truths, without the rule %d %d, spare are %v", b, n, i, m, spare)
			}
		}
	}
	everyBook(&d, see)
	for range 20 {
		see(d.possible(d.roll(6, 9), 80, d.roll(0, 1<<6-1)))
	}
}

// P10.6: in books with many things, a rule is spare if none of the truths without it breaks it.
func TestSpareInLargeBooks(t *testing.T) {
	d := dice{14}
	for range 40 {
		b := d.large()
		spare, e := keys.Spare(b)
		for i, r := range b.Rules {
			breaks := firstByTrying(without(b, i), []keys.Case{contrary(r.A), contrary(r.B)}) != nil
			if slices.Contains(spare, i) == breaks || e != api.OK {
				t.Fatalf("Spare(%v) = %v %d, not so of %d", b, spare, e, i)
			}
		}
	}
}

// P10.13, G5: a thing that is replaced by its contrary in all rules has the other value in
// truths, and nothing else is changed.
func TestReplacedByContrary(t *testing.T) {
	d := dice{15}
	everyBook(&d, func(b keys.Book) {
		thing := d.roll(0, b.Things-1)
		turn := func(c keys.Case) keys.Case {
			if c.Thing == thing {
				return contrary(c)
			}
			return c
		}
		turned := keys.Book{Things: b.Things}
		for _, r := range b.Rules {
			turned.Rules = append(turned.Rules, rule(turn(r.A), turn(r.B)))
		}
		first, certain, n := ask(t, b)
		_, after, m := ask(t, turned)
		spare, _ := keys.Spare(b)
		same, _ := keys.Spare(turned)
		if n != m || !slices.Equal(spare, same) {
			t.Fatalf("%v: Count %d, Spare %v, replaced %d, %v", b, n, spare, m, same)
		}
		for i := range certain {
			if (certain[i] == keys.Open) != (after[i] == keys.Open) || i != thing && certain[i] != after[i] || i == thing && certain[i] == after[i] && certain[i] != keys.Open {
				t.Fatalf("%v: Certain %v, %d replaced %v", b, certain, thing, after)
			}
		}
		if n > 0 {
			first[thing] = !first[thing]
			if l, _ := keys.Broken(turned, first); len(l) > 0 {
				t.Fatalf("%v: %v, with %d replaced, breaks %v", b, first, thing, l)
			}
		}
	})
}

// P10.13, G5: the order of rules and of their cases does not matter, and things can be
// numbered in another way.
func TestOrder(t *testing.T) {
	d := dice{16}
	see := func(b keys.Book) {
		mixed, numbers, renamed := clone(b), make([]int, b.Things), keys.Book{Things: b.Things}
		for i := range mixed.Rules {
			j := d.roll(0, i)
			mixed.Rules[i], mixed.Rules[j] = mixed.Rules[j], mixed.Rules[i]
			if r := &mixed.Rules[j]; d.isSo() {
				r.A, r.B = r.B, r.A
			}
		}
		for i := range numbers {
			j := d.roll(0, i)
			numbers[i] = numbers[j]
			numbers[j] = i
		}
		rename := func(c keys.Case) keys.Case { return keys.Case{Thing: numbers[c.Thing], Is: c.Is} }
		for _, r := range b.Rules {
			renamed.Rules = append(renamed.Rules, rule(rename(r.A), rename(r.B)))
		}
		given := d.some(b, d.roll(0, 2))
		other := slices.Clone(given)
		for i := range other {
			other[i] = rename(other[i])
		}
		slices.Reverse(given)
		first, certain, n := ask(t, b, given...)
		same, sure, m := ask(t, mixed, given...)
		_, after, l := ask(t, renamed, other...)
		if !slices.Equal(first, same) || !slices.Equal(certain, sure) || n != m || n != l {
			t.Fatalf("%v with %v: %v %v %d, in another order %v %v %d, with other numbers %d", b, given, first, certain, n, same, sure, m, l)
		}
		for i := range after {
			if after[numbers[i]] != certain[i] {
				t.Fatalf("%v with %v: Certain %v, with the numbers %v %v", b, given, certain, numbers, after)
			}
		}
	}
	everyBook(&d, see)
}

// P10.13, G1: one more rule leaves no more truths, and only truths that were there.
func TestOneMoreRule(t *testing.T) {
	d := dice{17}
	everyBook(&d, func(b keys.Book) {
		more := clone(b)
		more.Rules = append(more.Rules, rule(d.someCase(b), d.someCase(b)))
		_, before, n := ask(t, b)
		first, after, m := ask(t, more)
		if m > n {
			t.Fatalf("%v has %d truths, with one more rule %d", b, n, m)
		}
		if m == 0 {
			return
		}
		if l, _ := keys.Broken(b, first); len(l) > 0 {
			t.Fatalf("%v: %v is a truth with one more rule, and breaks %v", b, first, l)
		}
		for i := range before {
			if before[i] != keys.Open && before[i] != after[i] {
				t.Fatalf("%v: Certain %v, with one more rule %v", b, before, after)
			}
		}
	})
}
