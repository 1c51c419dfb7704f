package ratio_test

import (
	"slices"
	"testing"

	"soroban/api"
	"soroban/ratio"
)

// call is what a call gives: numbers, integers, an int or a text, and an error.
type call struct {
	numbers  []api.Rat
	integers []api.Int
	i        int
	text     string
	e        api.Errno
}

// function is a function of one or two numbers.
type function struct {
	takes int
	call  func(a, b api.Rat) call
}

// others returns how many of n second arguments are worth a call.
func (f function) others(n int) int {
	if f.takes == 1 {
		return 1
	}
	return n
}

// functions returns all functions of numbers, with arguments beside them that are right (wrong: with others that would be errors of their own).
func functions(wrong bool) map[string]function {
	one := func(x api.Rat, e api.Errno) call { return call{numbers: []api.Rat{x}, e: e} }
	integer := func(x api.Int, e api.Errno) call { return call{integers: []api.Int{x}, e: e} }
	text := func(s string, e api.Errno) call { return call{text: s, e: e} }
	power, dir, bound := 3, api.RdAway, n(7).Abs
	if wrong {
		power, dir, bound = 1<<40, 0, nil
	}
	return map[string]function{
		"Cmp": {2, func(a, b api.Rat) call {
			c, e := ratio.Cmp(a, b)
			return call{i: c, e: e}
		}},
		"Neg":   {1, func(a, b api.Rat) call { return one(ratio.Neg(a)) }},
		"Inv":   {1, func(a, b api.Rat) call { return one(ratio.Inv(a)) }},
		"Add":   {2, func(a, b api.Rat) call { return one(ratio.Add(a, b)) }},
		"Sub":   {2, func(a, b api.Rat) call { return one(ratio.Sub(a, b)) }},
		"Mul":   {2, func(a, b api.Rat) call { return one(ratio.Mul(a, b)) }},
		"Div":   {2, func(a, b api.Rat) call { return one(ratio.Div(a, b)) }},
		"Pow":   {1, func(a, b api.Rat) call { return one(ratio.Pow(a, power)) }},
		"Pow 1": {1, func(a, b api.Rat) call { return one(ratio.Pow(a, 1)) }},
		"Pow -": {1, func(a, b api.Rat) call { return one(ratio.Pow(a, -power)) }},
		"Floor": {1, func(a, b api.Rat) call { return integer(ratio.Floor(a)) }},
		"Round": {1, func(a, b api.Rat) call { return integer(ratio.Round(a, dir)) }},
		"Terms": {1, func(a, b api.Rat) call {
			l, e := ratio.Terms(a)
			return call{integers: l, e: e}
		}},
		"Convergents": {1, func(a, b api.Rat) call {
			l, e := ratio.Convergents(a)
			return call{numbers: l, e: e}
		}},
		"Near":          {1, func(a, b api.Rat) call { return one(ratio.Near(a, bound)) }},
		"Simplest":      {2, func(a, b api.Rat) call { return one(ratio.Simplest(a, b, false, false)) }},
		"Simplest open": {2, func(a, b api.Rat) call { return one(ratio.Simplest(a, b, true, true)) }},
		"Simplest down": {2, func(a, b api.Rat) call { return one(ratio.Simplest(b, a, false, true)) }},
		"Text":          {1, func(a, b api.Rat) call { return text(ratio.Text(a)) }},
		"Decimal":       {1, func(a, b api.Rat) call { return text(ratio.Decimal(a)) }},
	}
}

// isZero reports whether a call gives nothing but an error.
func (c call) isZero() bool {
	return c.i == 0 && c.text == "" &&
		!slices.ContainsFunc(c.numbers, func(a api.Rat) bool { return !isNothing(a) }) &&
		!slices.ContainsFunc(c.integers, func(a api.Int) bool { return a.Neg || len(a.Abs) > 0 })
}

func TestInvalidNumbers(t *testing.T) { // the section Errors, R3, R4: ErrArg comes ahead of all other errors
	good := []api.Rat{q(0, 1), q(1, 1), q(-5, 3), of(largest(), one), of(one, largest())}
	for _, wrong := range []bool{false, true} {
		for name, f := range functions(wrong) {
			for i, bad := range invalid() {
				for _, g := range good {
					for place := range f.takes {
						arguments := [2]api.Rat{g, g}
						arguments[place] = bad
						got := f.call(arguments[0], arguments[1])
						if got.e != api.ErrArg || !got.isZero() {
							t.Fatalf("%s with the argument %d not valid (%d): error %d", name, place, i, got.e)
						}
					}
				}
			}
		}
	}
	for i, bad := range []api.Int{{Neg: true}, {Abs: api.Nat{0}}, {Neg: true, Abs: api.Nat{1, 0}}, {Abs: make(api.Nat, 1025)}} {
		for _, g := range []api.Int{n(0), n(3)} {
			got, e := ratio.New(bad, g)
			failed(t, "New", got, e, api.ErrArg)
			if got, e = ratio.New(g, bad); e != api.ErrArg || !isNothing(got) {
				t.Fatalf("New (%d): %v, error %d", i, got, e)
			}
		}
	}
}

func TestErrorsGiveNothing(t *testing.T) { // R1, R4
	list := []api.Rat{q(0, 1), q(1, 1), q(-1, 2), q(22, 7), of(largest(), one), of(one, largest()), minus(of(largest(), power(2, maxBits, -2)))}
	for _, wrong := range []bool{false, true} {
		for name, f := range functions(wrong) {
			for _, a := range list {
				for _, b := range list[:f.others(len(list))] {
					if got := f.call(a, b); got.e != api.OK && !got.isZero() {
						t.Fatalf("%s: error %d, and a result", name, got.e)
					}
				}
			}
		}
	}
}

// padded returns a list of elements with something behind its end.
func padded(a api.Nat) api.Nat {
	long := append(slices.Clone(a), 77, 78, 79)
	return long[:len(a)]
}

func paddedRat(a api.Rat) api.Rat {
	return api.Rat{Num: api.Int{Neg: a.Num.Neg, Abs: padded(a.Num.Abs)}, Den: padded(a.Den)}
}

// isIntact reports whether a padded list is still as it was.
func isIntact(a, was api.Nat) bool {
	return slices.Equal(a[:len(was)+3], append(slices.Clone(was), 77, 78, 79))
}

func isIntactRat(a, was api.Rat) bool {
	return isIntact(a.Num.Abs, was.Num.Abs) && isIntact(a.Den, was.Den)
}

// lists returns all memory of what a call gives.
func (c call) lists() []api.Nat {
	var all []api.Nat
	for _, a := range c.numbers {
		all = append(all, a.Num.Abs, a.Den)
	}
	for _, a := range c.integers {
		all = append(all, a.Abs)
	}
	return all
}

// checkApart checks that lists share no memory, and spoils them.
func checkApart(t *testing.T, name string, lists []api.Nat) {
	t.Helper()
	var copies []api.Nat
	for _, a := range lists {
		copies = append(copies, slices.Clone(a))
	}
	for i, a := range lists {
		if !slices.Equal(a, copies[i]) {
			t.Fatalf("%s: results share memory", name)
		}
		a = a[:cap(a)]
		for k := range a {
			a[k] = 0xbad
		}
	}
}

func TestMemory(t *testing.T) { // R6
	list := []api.Rat{q(0, 1), q(1, 1), q(-1, 1), q(7, 1), q(-22, 7), q(1, 8), q(1, 7), of(power(2, 90, 5), power(3, 70, 0)), of(power(7, 300, 0), power(2, 900, 1))}
	for name, f := range functions(false) {
		for i, x := range list {
			for _, y := range []api.Rat{list[(i*4+1)%len(list)], x} {
				a, b := paddedRat(x), paddedRat(y)
				got := f.call(a, b)
				if !isIntactRat(a, x) || !isIntactRat(b, y) {
					t.Fatalf("%s changes an argument", name)
				}
				checkApart(t, name, got.lists())
				if !isIntactRat(a, x) || !isIntactRat(b, y) {
					t.Fatalf("%s: a result shares memory with an argument", name)
				}
				same := f.call(a, a)
				checkApart(t, name, same.lists())
				if !isIntactRat(a, x) {
					t.Fatalf("%s: a result shares memory with an argument", name)
				}
			}
		}
	}
}

func TestMemoryOfLists(t *testing.T) { // R6
	x, y := n(-4), n(7)
	a, b := api.Int{Neg: true, Abs: padded(x.Abs)}, api.Int{Abs: padded(y.Abs)}
	l := []api.Int{a, b, {Abs: api.Nat{99}}}
	for _, got := range []func() (api.Rat, api.Errno){
		func() (api.Rat, api.Errno) { return ratio.New(a, b) },
		func() (api.Rat, api.Errno) { return ratio.Fraction(l[:1]) },
		func() (api.Rat, api.Errno) { return ratio.Fraction(l[:2]) },
		func() (api.Rat, api.Errno) { return ratio.Near(q(22, 9), b.Abs) },
		func() (api.Rat, api.Errno) { return ratio.Near(q(22, 7), b.Abs) },
	} {
		r, e := got()
		if e != api.OK {
			t.Fatal(e)
		}
		checkApart(t, "a function", []api.Nat{r.Num.Abs, r.Den})
		if !isIntact(a.Abs, x.Abs) || !isIntact(b.Abs, y.Abs) || l[2].Abs[0] != 99 {
			t.Fatal("an argument is changed, or shares its memory")
		}
	}
}

func TestSameAgain(t *testing.T) { // R7, and an empty slice is the same as nil
	other := func(a api.Rat) api.Rat {
		return api.Rat{Num: api.Int{Neg: a.Num.Neg, Abs: append(api.Nat{}, a.Num.Abs...)}, Den: slices.Clone(a.Den)}
	}
	list := []api.Rat{q(0, 1), q(3, 1), q(-3, 7), of(power(2, 100, 1), one), of(largest(), power(2, maxBits, -2))}
	for name, f := range functions(false) {
		for _, a := range list {
			for _, b := range list[:f.others(len(list))] {
				first, again := f.call(a, b), f.call(other(a), other(b))
				if first.e != again.e || first.i != again.i || first.text != again.text || !slices.EqualFunc(first.numbers, again.numbers, equal) || !slices.EqualFunc(first.integers, again.integers, equalInts) {
					t.Errorf("%s: %v and %v", name, first, again)
				}
			}
		}
	}
}
