package ratio_test

import (
	"math/big"
	"math/rand"
	"slices"
	"strings"
	"testing"

	"soroban/api"
	"soroban/ratio"
)

func TestField(t *testing.T) { // P3.9
	is := sure(t)
	r := rand.New(rand.NewSource(11))
	zero, unit := q(0, 1), q(1, 1)
	for range 200 {
		a, b, c := number(r, 15), number(r, 15), number(r, 15)
		ab, bc := is(ratio.Add(a, b)), is(ratio.Add(b, c))
		identical(t, "a + b", ab, is(ratio.Add(b, a)))
		identical(t, "a + b + c", is(ratio.Add(ab, c)), is(ratio.Add(a, bc)))
		identical(t, "a b", is(ratio.Mul(a, b)), is(ratio.Mul(b, a)))
		identical(t, "a b c", is(ratio.Mul(is(ratio.Mul(a, b)), c)), is(ratio.Mul(a, is(ratio.Mul(b, c)))))
		identical(t, "a (b + c)", is(ratio.Mul(a, bc)), is(ratio.Add(is(ratio.Mul(a, b)), is(ratio.Mul(a, c)))))
		identical(t, "a + b - b", is(ratio.Sub(ab, b)), a)
		identical(t, "a - b", is(ratio.Sub(a, b)), is(ratio.Add(a, is(ratio.Neg(b)))))
		identical(t, "a - a", is(ratio.Sub(a, a)), zero)
		identical(t, "a + 0", is(ratio.Add(a, zero)), a)
		identical(t, "a 1", is(ratio.Mul(a, unit)), a)
		identical(t, "a 0", is(ratio.Mul(a, zero)), zero)
		identical(t, "- - a", is(ratio.Neg(is(ratio.Neg(a)))), a)
		if len(b.Num.Abs) > 0 {
			identical(t, "a b / b", is(ratio.Div(is(ratio.Mul(a, b)), b)), a)
			identical(t, "a / b", is(ratio.Div(a, b)), is(ratio.Mul(a, is(ratio.Inv(b)))))
			identical(t, "b / b", is(ratio.Div(b, b)), unit)
			identical(t, "1 / 1 / b", is(ratio.Inv(is(ratio.Inv(b)))), b)
			identical(t, "powers", is(ratio.Pow(b, 2)), is(ratio.Mul(is(ratio.Pow(b, 5)), is(ratio.Pow(b, -3)))))
		}
	}
}

func TestOrder(t *testing.T) { // P3.10
	is := sure(t)
	list := numbers()
	slices.SortFunc(list, func(a, b api.Rat) int { return order(t, a, b) })
	for i, a := range list {
		for j, b := range list {
			c := order(t, a, b)
			if c != -order(t, b, a) || (c == 0) != equal(a, b) || i < j && c > 0 {
				t.Fatalf("Cmp of %v and %v: %d", a, b, c)
			}
			d := is(ratio.Sub(a, b))
			if sign := order(t, d, q(0, 1)); sign != c || d.Num.Neg != (c < 0) {
				t.Fatalf("Cmp of %v and %v: %d", a, b, c)
			}
		}
	}
}

// roundedTo returns Round of a number, as a number.
func roundedTo(t *testing.T, a api.Rat, dir int) api.Rat {
	t.Helper()
	i, e := ratio.Round(a, dir)
	if e != api.OK {
		t.Fatal("Round:", e)
	}
	return api.Rat{Num: i, Den: api.Nat{1}}
}

func TestRoundingPromises(t *testing.T) { // P3.10
	is := sure(t)
	half, zero, unit := q(1, 2), q(0, 1), q(1, 1)
	list := append(numbers(), fractions(11, 4)...)
	slices.SortFunc(list, func(a, b api.Rat) int { return order(t, a, b) })
	for dir := api.RdEven; dir <= api.RdDown; dir++ {
		for i, a := range list {
			up := roundedTo(t, a, dir)
			d := is(ratio.Sub(a, up))
			size := d
			size.Num.Neg = false
			if order(t, size, unit) >= 0 || dir <= api.RdAway && order(t, size, half) > 0 {
				t.Fatalf("%v is rounded to %v", a, up)
			}
			if i > 0 && order(t, roundedTo(t, list[i-1], dir), up) > 0 {
				t.Fatalf("%v is rounded below a smaller number", a)
			}
			mirrored := dir
			if dir >= api.RdUp {
				mirrored = api.RdUp + api.RdDown - dir
			}
			identical(t, "Round of the opposite", roundedTo(t, is(ratio.Neg(a)), mirrored), is(ratio.Neg(up)))
			if dir == api.RdDown {
				f, e := ratio.Floor(a)
				if e != api.OK || !equalInts(f, up.Num) || order(t, d, zero) < 0 {
					t.Fatalf("Floor of %v: %v, error %d", a, f, e)
				}
			}
		}
	}
}

func TestContinuedFractions(t *testing.T) { // P3.11
	is := sure(t)
	r := rand.New(rand.NewSource(12))
	list := append(numbers(), largeNumbers()...)
	for range 60 {
		list = append(list, number(r, 10))
	}
	for _, a := range list {
		l, e := ratio.Terms(a)
		if e != api.OK || len(l) == 0 {
			t.Fatal("Terms:", e)
		}
		for i, term := range l {
			if i > 0 && (term.Neg || len(term.Abs) == 0 || i == len(l)-1 && equalInts(term, n(1))) {
				t.Fatalf("Terms of %v: %v", a, l)
			}
		}
		identical(t, "Fraction of Terms", is(ratio.Fraction(l)), a)
		if len(l) > 1 { // the last term can be taken in two parts
			last := integer(new(big.Int).Sub(bigInt(l[len(l)-1]), one))
			identical(t, "Fraction", is(ratio.Fraction(append(slices.Clone(l[:len(l)-1]), last, n(1)))), a)
		}
		checkConvergents(t, a)
	}
	for range 200 {
		l := []api.Int{n(r.Intn(7) - 3)}
		for range r.Intn(12) {
			l = append(l, n(1+r.Intn(4)))
		}
		if len(l) > 1 && equalInts(l[len(l)-1], n(1)) {
			l[len(l)-1] = n(5)
		}
		back, e := ratio.Terms(is(ratio.Fraction(l)))
		if e != api.OK || !slices.EqualFunc(back, l, equalInts) {
			t.Fatalf("Terms of Fraction of %v: %v, error %d", l, back, e)
		}
	}
}

// checkConvergents checks what is promised of the convergents of a number.
func checkConvergents(t *testing.T, a api.Rat) {
	t.Helper()
	list, e := ratio.Convergents(a)
	if e != api.OK {
		t.Fatal("Convergents:", e)
	}
	x := oracle(a)
	var last, miss *big.Rat
	for i, c := range list {
		y := oracle(c)
		d := new(big.Rat).Sub(x, y)
		if i == len(list)-1 && d.Sign() != 0 || i < len(list)-1 && d.Sign() != 1-i%2*2 {
			t.Fatalf("the convergent %d of %v lies on the wrong side", i, a)
		}
		d.Abs(d)
		if i > 0 {
			first, second := new(big.Int).Mul(y.Num(), last.Denom()), new(big.Int).Mul(last.Num(), y.Denom())
			grows := y.Denom().Cmp(last.Denom())
			if first.Sub(first, second).CmpAbs(one) != 0 || grows < 0 || grows == 0 && i > 1 || d.Cmp(miss) >= 0 {
				t.Fatalf("convergents %v and %v", last, y)
			}
		}
		last, miss = y, d
	}
}

func TestNearest(t *testing.T) { // P3.12
	r := rand.New(rand.NewSource(13))
	for range 60 {
		a := number(r, 8)
		bound := bigNat(natural(r, 1+r.Intn(4)))
		got, e := ratio.Near(a, integer(bound).Abs)
		x := oracle(a)
		if x.Denom().Cmp(bound) <= 0 {
			same(t, "Near", got, e, x)
			continue
		}
		checkNearest(t, x, got, e, bound)
	}
	for _, a := range append(numbers(), largeNumbers()...) {
		list, _ := ratio.Convergents(a)
		for i, c := range list {
			if i == 0 {
				continue
			}
			got, e := ratio.Near(a, c.Den)
			if e != api.OK {
				t.Fatal("Near:", e)
			}
			if !equal(got, c) {
				x, y, z := oracle(a), oracle(c), oracle(got)
				d, other := new(big.Rat).Sub(x, y), new(big.Rat).Sub(x, z)
				if d.Abs(d).Cmp(other.Abs(other)) != 0 || !simpler(z, y) {
					t.Fatalf("Near of %v with the denominator of the convergent %v: %v", a, c, got)
				}
			}
		}
	}
}

func TestSimplestPromises(t *testing.T) { // P3.13
	is := sure(t)
	r := rand.New(rand.NewSource(14))
	for i := range 300 {
		lo := number(r, 6)
		hi := is(ratio.Add(lo, own(new(big.Rat).Abs(oracle(number(r, 6))))))
		if i%2 == 0 { // many terms that both have
			hi = is(ratio.Add(lo, of(one, bigNat(natural(r, 12)))))
		}
		if equal(lo, hi) {
			continue
		}
		openLo, openHi := i%3 == 0, i%5 == 0
		s := is(ratio.Simplest(lo, hi, openLo, openHi))
		low, high := order(t, lo, s), order(t, s, hi)
		if low > 0 || high > 0 || low == 0 && openLo || high == 0 && openHi {
			t.Fatalf("Simplest from %v to %v: %v", lo, hi, s)
		}
		if s.Num.Abs != nil && !lo.Num.Neg && len(lo.Num.Abs) > 0 {
			checkParents(t, oracle(s), oracle(lo), oracle(hi))
		}
		identical(t, "Simplest in a smaller interval", is(ratio.Simplest(s, hi, false, openHi)), s)
		identical(t, "Simplest in a smaller interval", is(ratio.Simplest(lo, s, openLo, false)), s)
		identical(t, "Simplest in a smaller interval", is(ratio.Simplest(s, s, false, false)), s)
		middle := is(ratio.Div(is(ratio.Add(lo, s)), q(2, 1)))
		if order(t, middle, s) < 0 {
			identical(t, "Simplest in a smaller interval", is(ratio.Simplest(middle, hi, true, openHi)), s)
		}
		identical(t, "Simplest of negated bounds", is(ratio.Simplest(minus(hi), minus(lo), openHi, openLo)), minus(s))
	}
}

// checkParents checks that no number of an interval of positive numbers is simpler than s: the two numbers that s lies between among those with smaller denominators, or among integers, are outside.
func checkParents(t *testing.T, s, lo, hi *big.Rat) {
	t.Helper()
	if s.IsInt() {
		less := new(big.Rat).Sub(s, big.NewRat(1, 1))
		if less.Cmp(lo) > 0 {
			t.Fatalf("from %v to %v, %v is simpler than %v", lo, hi, less, s)
		}
		return
	}
	bound := new(big.Int).Sub(s.Denom(), one)
	below, above := nearBelow(s, bound), nearAbove(s, bound)
	if below.Cmp(lo) > 0 || above.Cmp(hi) < 0 {
		t.Fatalf("from %v to %v, %v or %v is simpler than %v", lo, hi, below, above, s)
	}
}

// nearBelow returns the greatest number below x, which is no integer, with a denominator up to a bound below that of x.
func nearBelow(x *big.Rat, bound *big.Int) *big.Rat {
	b := new(big.Int).ModInverse(x.Num(), x.Denom()) // b num - a den = 1
	if b.Cmp(bound) > 0 {
		panic("this is no test")
	}
	a := new(big.Int).Mul(b, x.Num())
	a.Sub(a, one).Div(a, x.Denom())
	return new(big.Rat).SetFrac(a, b)
}

// nearAbove is the other side of nearBelow.
func nearAbove(x *big.Rat, bound *big.Int) *big.Rat {
	y := nearBelow(new(big.Rat).Neg(x), bound)
	return y.Neg(y)
}

func TestTexts(t *testing.T) { // P3.14
	r := rand.New(rand.NewSource(15))
	list := numbers()
	for range 100 {
		den := new(big.Int).Exp(big.NewInt(2), big.NewInt(int64(r.Intn(20))), nil)
		den.Mul(den, new(big.Int).Exp(big.NewInt(5), big.NewInt(int64(r.Intn(20))), nil))
		if r.Intn(2) == 0 {
			den.Mul(den, big.NewInt(int64(1+r.Intn(300))))
		}
		list = append(list, of(bigInt(n(r.Intn(1<<40)-1<<39)), den))
	}
	for _, a := range list {
		s, e := ratio.Text(a)
		if e != api.OK {
			t.Fatal("Text:", e)
		}
		back, e := ratio.Parse(s)
		same(t, "Parse", back, e, oracle(a))
		s, e = ratio.Decimal(a)
		if e == api.ErrLimit && bigNat(a.Den).Cmp(big.NewInt(10000)) > 0 {
			continue
		}
		if e != api.OK || strings.Contains(s, "(") == isTenth(a.Den) {
			t.Fatalf("Decimal of %v: %s, error %d", a, s, e)
		}
		back, e = ratio.ParseDecimal(s)
		same(t, "ParseDecimal", back, e, oracle(a))
	}
}

// isTenth reports whether a number has no prime factors but 2 and 5.
func isTenth(a api.Nat) bool {
	x := bigNat(a)
	for _, p := range []int64{2, 5} {
		for {
			quotient, rest := new(big.Int).QuoRem(x, big.NewInt(p), new(big.Int))
			if rest.Sign() != 0 {
				break
			}
			x = quotient
		}
	}
	return x.Cmp(one) == 0
}
