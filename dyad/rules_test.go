package dyad_test

import (
	"slices"
	"testing"

	"soroban/api"
	"soroban/dyad"
)

// given is what a function takes: two dyads, two spans, a rational number, a number of bits and a direction.
type given struct {
	a, b      api.Dyad
	s, z      api.Span
	r         api.Rat
	bits, dir int
}

// call is what a call gives: dyads, an integer, a rational number, an int, a bool, and an error.
type call struct {
	dyads []api.Dyad
	whole api.Int
	r     api.Rat
	i     int
	yes   bool
	e     api.Errno
}

// function is a function, and which parts of what is given it takes.
type function struct {
	takes string
	call  func(g given) call
}

// functions returns all functions that return an error but for Make.
func functions() map[string]function {
	one := func(d api.Dyad, e api.Errno) call { return call{dyads: []api.Dyad{d}, e: e} }
	span := func(s api.Span, e api.Errno) call { return call{dyads: []api.Dyad{s.Lo, s.Hi}, e: e} }
	number := func(i int, e api.Errno) call { return call{i: i, e: e} }
	return map[string]function{
		"ToRat": {"a", func(g given) call {
			r, e := dyad.ToRat(g.a)
			return call{r: r, e: e}
		}},
		"FromRat": {"rBD", func(g given) call { return one(dyad.FromRat(g.r, g.bits, g.dir)) }},
		"Cmp":     {"ab", func(g given) call { return number(dyad.Cmp(g.a, g.b)) }},
		"CmpRat":  {"ar", func(g given) call { return number(dyad.CmpRat(g.a, g.r)) }},
		"Top":     {"a", func(g given) call { return number(dyad.Top(g.a)) }},
		"Neg":     {"a", func(g given) call { return one(dyad.Neg(g.a)) }},
		"Add":     {"ab", func(g given) call { return one(dyad.Add(g.a, g.b)) }},
		"Sub":     {"ab", func(g given) call { return one(dyad.Sub(g.a, g.b)) }},
		"Mul":     {"ab", func(g given) call { return one(dyad.Mul(g.a, g.b)) }},
		"Shift":   {"a", func(g given) call { return one(dyad.Shift(g.a, 5)) }},
		"Shift 0": {"a", func(g given) call { return one(dyad.Shift(g.a, 0)) }},
		"Round":   {"aBD", func(g given) call { return one(dyad.Round(g.a, g.bits, g.dir)) }},
		"Floor": {"a", func(g given) call {
			i, e := dyad.Floor(g.a)
			return call{whole: i, e: e}
		}},
		"Around":  {"rB", func(g given) call { return span(dyad.Around(g.r, g.bits)) }},
		"Outward": {"sB", func(g given) call { return span(dyad.Outward(g.s, g.bits)) }},
		"Plus":    {"szB", func(g given) call { return span(dyad.Plus(g.s, g.z, g.bits)) }},
		"Minus":   {"szB", func(g given) call { return span(dyad.Minus(g.s, g.z, g.bits)) }},
		"Times":   {"szB", func(g given) call { return span(dyad.Times(g.s, g.z, g.bits)) }},
		"Over":    {"szB", func(g given) call { return span(dyad.Over(g.s, g.z, g.bits)) }},
		"Root":    {"sB", func(g given) call { return span(dyad.Root(g.s, g.bits)) }},
		"Hull":    {"sz", func(g given) call { return span(dyad.Hull(g.s, g.z)) }},
		"Meet":    {"sz", func(g given) call { return span(dyad.Meet(g.s, g.z)) }},
		"Has": {"sr", func(g given) call {
			yes, e := dyad.Has(g.s, g.r)
			return call{yes: yes, e: e}
		}},
		"Width": {"s", func(g given) call { return one(dyad.Width(g.s)) }},
		"Side":  {"s", func(g given) call { return number(dyad.Side(g.s)) }},
	}
}

// isZero reports whether a call gives nothing but an error.
func (c call) isZero() bool {
	return c.i == 0 && !c.yes && equalInts(c.whole, api.Int{}) && equalInts(c.r.Num, api.Int{}) && len(c.r.Den) == 0 &&
		!slices.ContainsFunc(c.dyads, func(d api.Dyad) bool { return !equal(d, api.Dyad{}) })
}

// same reports whether two calls give the same.
func (c call) same(d call) bool {
	return c.e == d.e && c.i == d.i && c.yes == d.yes && equalInts(c.whole, d.whole) && equalInts(c.r.Num, d.r.Num) && slices.Equal(c.r.Den, d.r.Den) && slices.EqualFunc(c.dyads, d.dyads, equal)
}

// spoilt returns all ways in which one part of what is given can be wrong.
func (g given) spoilt(part rune) []given {
	var list []given
	add := func(change func(g *given)) {
		other := g
		change(&other)
		list = append(list, other)
	}
	for _, d := range invalid() {
		switch part {
		case 'a':
			add(func(g *given) { g.a = d })
		case 'b':
			add(func(g *given) { g.b = d })
		}
	}
	for _, s := range improper() {
		switch part {
		case 's':
			add(func(g *given) { g.s = s })
		case 'z':
			add(func(g *given) { g.z = s })
		}
	}
	for _, r := range invalidRats() {
		if part == 'r' {
			add(func(g *given) { g.r = r })
		}
	}
	for i := range wrongBits() {
		switch part {
		case 'B':
			add(func(g *given) { g.bits = wrongBits()[i] })
		case 'D':
			add(func(g *given) { g.dir = wrongDirections()[i] })
		}
	}
	return list
}

// arguments returns what is right, among it what gives other errors.
func arguments() []given {
	x, top := long(largest(), 0), of(1, api.MaxExpo)
	return []given{
		{a: of(3, 4), b: of(-7, 1), s: between(of(1, 0), of(5, 0)), z: between(of(3, 0), of(7, 9)), r: q(22, 7), bits: 20, dir: api.RdEven},
		{r: q(0, 1), bits: 1, dir: api.RdDown},
		{a: top, b: of(1, 0), s: between(top, top), z: between(of(3, 0), top), r: q(-1, 3), bits: 4096, dir: api.RdUp},
		{a: top, b: top, s: between(of(-1, 0), of(1, 0)), z: between(of(-1, -9), of(2, 1)), r: q(1, 1), bits: 1, dir: api.RdAway},
		{a: x, b: x, s: between(of(1, -5000), x), z: between(of(-3, 0), of(-1, 0)), r: quotient(largest(), power(maxBits, -2)), bits: 64, dir: api.RdZero},
		{a: of(1, -api.MaxExpo), b: of(1, -api.MaxExpo), s: between(of(1, -api.MaxExpo), of(3, -api.MaxExpo)), z: between(of(5, 2), x), r: q(5, 1), bits: 3, dir: api.RdUp},
	}
}

func TestInvalidArguments(t *testing.T) { // the section Functions, R3, R4: ErrArg comes ahead of all other errors
	for name, f := range functions() {
		for _, g := range arguments() {
			for _, part := range f.takes {
				for i, wrong := range g.spoilt(part) {
					if got := f.call(wrong); got.e != api.ErrArg || !got.isZero() {
						t.Fatalf("%s with what is wrong with %c, %d: error %d", name, part, i, got.e)
					}
				}
			}
		}
	}
}

func TestErrorsGiveNothing(t *testing.T) { // R1, R4
	seen := map[api.Errno]bool{}
	for name, f := range functions() {
		for _, g := range arguments() {
			got := f.call(g)
			seen[got.e] = true
			if got.e != api.OK && !got.isZero() {
				t.Fatalf("%s: error %d, and a result", name, got.e)
			}
		}
	}
	for _, e := range []api.Errno{api.OK, api.ErrLimit, api.ErrRange, api.ErrNone, api.ErrDiv} {
		if !seen[e] {
			t.Errorf("this is no test of error %d", e)
		}
	}
	if len(seen) != 5 {
		t.Error(seen)
	}
}

// padded returns a list of elements with something behind its end.
func padded(a api.Nat) api.Nat {
	long := append(slices.Clone(a), 77, 78, 79)
	return long[:len(a)]
}

// lists returns where the parts of what is given keep their elements.
func (g *given) lists() []*api.Nat {
	return []*api.Nat{&g.a.Man.Abs, &g.b.Man.Abs, &g.s.Lo.Man.Abs, &g.s.Hi.Man.Abs, &g.z.Lo.Man.Abs, &g.z.Hi.Man.Abs, &g.r.Num.Abs, &g.r.Den}
}

// padded returns a copy of what is given, the lists of which have something behind their ends.
func (g given) padded() given {
	for _, list := range g.lists() {
		*list = padded(*list)
	}
	return g
}

// isIntact reports whether the lists of what was padded are still as they were.
func (g given) isIntact(was given) bool {
	before := was.lists()
	for i, list := range g.lists() {
		length := len(*list)
		if !slices.Equal((*list)[:length+3], append(slices.Clone(*before[i]), 77, 78, 79)) {
			return false
		}
	}
	return true
}

// checkApart checks that the lists of a result share no memory, and spoils them.
func (c call) checkApart(t *testing.T, name string) {
	t.Helper()
	lists := []api.Nat{c.whole.Abs, c.r.Num.Abs, c.r.Den}
	for _, d := range c.dyads {
		lists = append(lists, d.Man.Abs)
	}
	var copies []api.Nat
	for _, a := range lists {
		copies = append(copies, slices.Clone(a))
	}
	for i, a := range lists {
		if !slices.Equal(a, copies[i]) {
			t.Fatalf("%s: results share memory", name)
		}
		a = a[:cap(a)]
		for k := range a {
			a[k] = 0xbad
		}
	}
}

func TestMemory(t *testing.T) { // R6
	point, x := between(of(7, 2), of(7, 2)), long(power(200, 1), -9)
	list := append(arguments(),
		given{a: of(5, 0), b: api.Dyad{}, s: point, z: point, r: q(5, 1), bits: 64, dir: api.RdUp},
		given{a: api.Dyad{}, b: of(5, 0), s: between(of(-9, 0), of(16, 0)), z: between(of(1, 0), of(1, 0)), r: q(-1, 7), bits: 64, dir: api.RdUp},
		given{a: x, b: of(1, 0), s: between(x, x), z: between(of(1, 0), of(1, 0)), r: q(1, 16), bits: 300, dir: api.RdEven},
	)
	for name, f := range functions() {
		for _, was := range list {
			g := was.padded()
			got := f.call(g)
			if !g.isIntact(was) {
				t.Fatalf("%s changes an argument", name)
			}
			got.checkApart(t, name)
			if !g.isIntact(was) {
				t.Fatalf("%s: a result shares memory with an argument", name)
			}
			was.b, was.z = was.a, was.s
			g = was.padded()
			g.b, g.z = g.a, g.s // the same memory
			f.call(g).checkApart(t, name)
			if !g.isIntact(was) {
				t.Fatalf("%s: a result shares memory with an argument", name)
			}
		}
	}
	for _, exp := range []int{0, 3} {
		man := integer(power(70, 1))
		long := api.Int{Abs: padded(man.Abs)}
		got, e := dyad.Make(long, exp)
		call{dyads: []api.Dyad{got}, e: e}.checkApart(t, "Make")
		if e != api.OK || !slices.Equal(long.Abs[:len(man.Abs)+3], append(slices.Clone(man.Abs), 77, 78, 79)) {
			t.Fatal("Make changes its argument, or shares its memory")
		}
	}
}

func TestSameAgain(t *testing.T) { // R7, and an empty slice is the same as nil
	for name, f := range functions() {
		for _, g := range arguments() {
			other := g
			for _, list := range other.lists() {
				*list = append(api.Nat{}, *list...)
			}
			if first, again := f.call(g), f.call(other); !first.same(again) {
				t.Errorf("%s: %v and %v", name, first, again)
			}
		}
	}
}
