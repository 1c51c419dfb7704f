package dyad_test

import (
	"math/big"
	"math/rand"
	"slices"
	"testing"

	"soroban/api"
	"soroban/dyad"
)

func TestOneDyad(t *testing.T) { // P4.9
	is := sure(t)
	for _, d := range append(dyads(), largeDyads()...) {
		identical(t, "Make", is(dyad.Make(d.Man, d.Exp)), d)
		bits := bigInt(d.Man).BitLen()
		r, e := dyad.ToRat(d)
		if e != api.OK || bits == 0 || bits > api.MaxBits {
			continue
		}
		for _, dir := range directions() {
			identical(t, "FromRat of ToRat", is(dyad.FromRat(r, bits, dir)), d)
		}
	}
	list := append(dyads(), largeDyads()[:20]...)
	for _, a := range list {
		for _, b := range list {
			if (order(t, a, b) == 0) != equal(a, b) {
				t.Fatalf("Cmp of %v and %v: %d", a, b, order(t, a, b))
			}
		}
	}
}

// lastUnit returns a unit of the last of so many bits of a number other than 0.
func lastUnit(d api.Dyad, bits int) binaryFraction {
	return binaryFraction{one, bigInt(d.Man).BitLen() + d.Exp - bits}
}

func TestRoundingPromises(t *testing.T) { // P4.10
	is := sure(t)
	list := dyads()
	slices.SortFunc(list, func(a, b api.Dyad) int { return order(t, a, b) })
	for _, bits := range sizes() {
		var last [6]api.Dyad
		for i, d := range list {
			down, up := is(dyad.Round(d, bits, api.RdDown)), is(dyad.Round(d, bits, api.RdUp))
			x, below, above := oracle(d), oracle(down), oracle(up)
			size := bigInt(d.Man).BitLen()
			if below.cmp(x) > 0 || above.cmp(x) < 0 || size > 0 && above.minus(below).cmp(lastUnit(d, bits)) > 0 || equal(down, up) != (size <= bits) {
				t.Fatalf("%v rounded to %d bits: %v and %v", d, bits, down, up)
			}
			for dir := api.RdEven; dir <= api.RdDown; dir++ {
				r := is(dyad.Round(d, bits, dir))
				if !equal(r, down) && !equal(r, up) || dir <= api.RdAway && isNearer(x, oracle(r), below, above) {
					t.Fatalf("%v rounded to %d bits, direction %d: %v", d, bits, dir, r)
				}
				if i > 0 && order(t, last[dir], r) > 0 {
					t.Fatalf("%v rounded to %d bits: less than what is rounded from a smaller number", d, bits)
				}
				last[dir] = r
				mirrored := dir
				if dir >= api.RdUp {
					mirrored = api.RdUp + api.RdDown - dir
				}
				identical(t, "Round of the opposite", is(dyad.Round(minus(d), bits, mirrored)), minus(r))
				identical(t, "Round of what is rounded", is(dyad.Round(r, bits, dir)), r)
			}
		}
	}
}

// isNearer reports whether one of two other numbers is nearer to x than r.
func isNearer(x, r, below, above binaryFraction) bool {
	miss := x.minus(r)
	miss.man.Abs(miss.man)
	return miss.cmp(x.minus(below)) > 0 || miss.cmp(above.minus(x)) > 0
}

// operation is an operation on two spans, or one, with that on numbers. (A root is one of which the square is the number.)
type operation struct {
	name string
	call func(a, b api.Span, bits int) (api.Span, api.Errno)
	has  func(s api.Span, x, y binaryFraction) bool
}

// holds reports whether a span has a number.
func holds(s api.Span, x binaryFraction) bool {
	return oracle(s.Lo).cmp(x) <= 0 && x.cmp(oracle(s.Hi)) <= 0
}

// holdsTimes reports whether a span has a quotient, by products.
func holdsTimes(s api.Span, x, y binaryFraction) bool {
	lo, hi := oracle(s.Lo).times(y), oracle(s.Hi).times(y)
	if y.man.Sign() < 0 {
		lo, hi = hi, lo
	}
	return lo.cmp(x) <= 0 && x.cmp(hi) <= 0
}

func operations() []operation {
	return []operation{
		{"Plus", dyad.Plus, func(s api.Span, x, y binaryFraction) bool { return holds(s, x.plus(y)) }},
		{"Minus", dyad.Minus, func(s api.Span, x, y binaryFraction) bool { return holds(s, x.minus(y)) }},
		{"Times", dyad.Times, func(s api.Span, x, y binaryFraction) bool { return holds(s, x.times(y)) }},
		{"Over", dyad.Over, holdsTimes},
		{"Root", func(a, b api.Span, bits int) (api.Span, api.Errno) { return dyad.Root(a, bits) }, func(s api.Span, x, y binaryFraction) bool {
			lo, hi := oracle(s.Lo), oracle(s.Hi)
			return lo.man.Sign() >= 0 && lo.times(lo).cmp(x) <= 0 && x.cmp(hi.times(hi)) <= 0
		}},
		{"Outward", func(a, b api.Span, bits int) (api.Span, api.Errno) { return dyad.Outward(a, bits) }, func(s api.Span, x, y binaryFraction) bool { return holds(s, x) }},
	}
}

// numbersOf returns some numbers of a span: its ends, and others between them.
func numbersOf(r *rand.Rand, s api.Span) []binaryFraction {
	lo, width := oracle(s.Lo), oracle(s.Hi).minus(oracle(s.Lo))
	list := []binaryFraction{lo, oracle(s.Hi)}
	for range 3 {
		part := binaryFraction{big.NewInt(int64(r.Intn(65))), -6}
		list = append(list, lo.plus(width.times(part)))
	}
	return list
}

// inner returns a span within a span.
func inner(r *rand.Rand, s api.Span) api.Span {
	list := numbersOf(r, s)
	return between(list[2+r.Intn(3)].own(), list[r.Intn(5)].own())
}

func TestEnclosure(t *testing.T) { // P4.11
	r := rand.New(rand.NewSource(9))
	for range 1200 {
		a, b := someSpan(r, 4, 150), someSpan(r, 4, 150)
		if r.Intn(2) == 0 {
			list := smallSpans()
			a, b = list[r.Intn(len(list))], list[r.Intn(len(list))]
		}
		bits := 1 + r.Intn(40)
		for _, o := range operations() {
			s, e := o.call(a, b, bits)
			if e != api.OK {
				continue
			}
			for _, x := range numbersOf(r, a) {
				for _, y := range numbersOf(r, b) {
					if !o.has(s, x, y) {
						t.Fatalf("%s of %v and %v: %v has not the result of %v and %v", o.name, a, b, s, x, y)
					}
				}
			}
			less, e := o.call(inner(r, a), inner(r, b), bits)
			if e != api.OK || !within(t, less, s) {
				t.Fatalf("%s of spans within %v and %v: %v, error %d, not within %v", o.name, a, b, less, e, s)
			}
			more, e := o.call(a, b, bits+r.Intn(60))
			if e != api.OK || !within(t, more, s) {
				t.Fatalf("%s of %v and %v with more bits: %v, error %d, not within %v", o.name, a, b, more, e, s)
			}
		}
	}
}

func TestEnclosureOfRats(t *testing.T) { // P4.11: Around
	for num := -30; num <= 30; num++ {
		for den := 1; den <= 15; den++ {
			r := q(num, den)
			var last api.Span
			for bits := 1; bits <= 40; bits++ {
				s := sureSpan(t)(dyad.Around(r, bits))
				has, e := dyad.Has(s, r)
				if !has || e != api.OK || bits > 1 && !within(t, s, last) {
					t.Fatalf("Around of %v with %d bits: %v", r, bits, s)
				}
				last = s
			}
		}
	}
}

func TestTight(t *testing.T) { // P4.12: the numbers of so many bits next to the ends, on the inner side, leave results out
	r := rand.New(rand.NewSource(10))
	list := smallSpans()
	for range 3000 {
		a, b := list[r.Intn(len(list))], list[r.Intn(len(list))]
		bits := 1 + r.Intn(9)
		for _, o := range operations() {
			s, e := o.call(a, b, bits)
			if e != api.OK {
				continue
			}
			for _, narrow := range []api.Span{
				{Lo: oracle(s.Lo).next(bits).own(), Hi: s.Hi},
				{Lo: s.Lo, Hi: oracle(s.Hi).opposite().next(bits).opposite().own()},
			} {
				has := order(t, narrow.Lo, narrow.Hi) <= 0
				for _, x := range []api.Dyad{a.Lo, a.Hi} {
					for _, y := range []api.Dyad{b.Lo, b.Hi} {
						has = has && o.has(narrow, oracle(x), oracle(y))
					}
				}
				if has {
					t.Fatalf("%s of %v and %v: %v is not the least span", o.name, a, b, s)
				}
			}
		}
	}
}

// next returns the least number of so many bits above a number of so many bits (above 0: one that is small enough).
func (x binaryFraction) next(bits int) binaryFraction {
	x = x.odd()
	if x.man.Sign() == 0 {
		return binaryFraction{one, -10000}
	}
	unit := binaryFraction{one, x.man.BitLen() + x.exp - bits}
	if x.man.Cmp(big.NewInt(-1)) == 0 { // toward 0 the next ones are nearer to a power of 2
		unit.exp--
	}
	return x.plus(unit)
}

func TestAlgebra(t *testing.T) { // P4.13
	is := sure(t)
	unit, list := of(1, 0), few()
	for _, a := range list {
		for _, b := range list {
			ab, product := is(dyad.Add(a, b)), is(dyad.Mul(a, b))
			identical(t, "a + b", ab, is(dyad.Add(b, a)))
			identical(t, "a b", product, is(dyad.Mul(b, a)))
			identical(t, "a - b", is(dyad.Sub(a, b)), is(dyad.Add(a, is(dyad.Neg(b)))))
			identical(t, "a + b - b", is(dyad.Sub(ab, b)), a)
			for _, c := range list {
				identical(t, "a + b + c", is(dyad.Add(ab, c)), is(dyad.Add(a, is(dyad.Add(b, c)))))
				identical(t, "a b c", is(dyad.Mul(product, c)), is(dyad.Mul(a, is(dyad.Mul(b, c)))))
				identical(t, "(a + b) c", is(dyad.Mul(ab, c)), is(dyad.Add(is(dyad.Mul(a, c)), is(dyad.Mul(b, c)))))
			}
		}
		for _, by := range []int{-70, -1, 0, 1, 33, 500} {
			identical(t, "Shift", is(dyad.Shift(a, by)), is(dyad.Mul(a, of(1, by))))
		}
		identical(t, "a 1", is(dyad.Mul(a, unit)), a)
		identical(t, "a - a", is(dyad.Sub(a, a)), api.Dyad{})
		identical(t, "- - a", is(dyad.Neg(is(dyad.Neg(a)))), a)
	}
}

// turned returns a span turned around 0.
func turned(s api.Span) api.Span { return api.Span{Lo: minus(s.Hi), Hi: minus(s.Lo)} }

func TestAlgebraOfSpans(t *testing.T) { // P4.13
	r := rand.New(rand.NewSource(11))
	for range 500 {
		a, b, bits := someSpan(r, 4, 100), someSpan(r, 4, 100), 1+r.Intn(100)
		is := sureSpan(t)
		if !equalSpans(is(dyad.Minus(a, b, bits)), is(dyad.Plus(a, turned(b), bits))) {
			t.Fatalf("Minus of %v and %v is not Plus", a, b)
		}
		if !equalSpans(is(dyad.Plus(a, b, bits)), is(dyad.Plus(b, a, bits))) || !equalSpans(is(dyad.Times(a, b, bits)), is(dyad.Times(b, a, bits))) {
			t.Fatalf("%v and %v can be told apart by their order", a, b)
		}
		if !equalSpans(turned(is(dyad.Times(a, b, bits))), is(dyad.Times(turned(a), b, bits))) {
			t.Fatalf("Times of %v and %v is not turned around with them", a, b)
		}
	}
}

func TestHullAndMeetPromises(t *testing.T) { // P4.14
	list := smallSpans()
	for i, a := range list {
		for k, b := range list {
			if (i+k)%3 != 0 {
				continue
			}
			hull := sureSpan(t)(dyad.Hull(a, b))
			if !within(t, a, hull) || !within(t, b, hull) {
				t.Fatalf("Hull of %v and %v: %v", a, b, hull)
			}
			meet, e := dyad.Meet(a, b)
			if e == api.OK && (!within(t, meet, a) || !within(t, meet, b)) {
				t.Fatalf("Meet of %v and %v: %v", a, b, meet)
			}
			for num := -28; num <= 28; num++ {
				x := q(num, 4)
				first, _ := dyad.Has(a, x)
				second, _ := dyad.Has(b, x)
				both, _ := dyad.Has(meet, x)
				if first && second && (e != api.OK || !both) {
					t.Fatalf("Meet of %v and %v: %v, error %d", a, b, meet, e)
				}
			}
		}
	}
}
