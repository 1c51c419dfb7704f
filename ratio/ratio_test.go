package ratio_test

import (
	"math"
	"math/big"
	"math/rand"
	"strings"
	"testing"

	"soroban/api"
	"soroban/ratio"
)

func TestValid(t *testing.T) { // P3.1
	for _, a := range append(numbers(), largeNumbers()...) {
		if !ratio.Valid(a) {
			t.Errorf("%v is not valid", a)
		}
	}
	for i, a := range invalid() {
		if ratio.Valid(a) {
			t.Errorf("what is not valid, %d, is valid", i)
		}
	}
	if !ratio.Valid(api.Rat{Num: api.Int{Abs: api.Nat{}}, Den: api.Nat{1}}) {
		t.Error("0 with an empty list is not valid")
	}
}

func TestNew(t *testing.T) { // P3.1
	for num := -30; num <= 30; num++ {
		for den := -30; den <= 30; den++ {
			got, e := ratio.New(n(num), n(den))
			if den == 0 {
				failed(t, "New", got, e, api.ErrDiv)
				continue
			}
			same(t, "New", got, e, big.NewRat(int64(num), int64(den)))
		}
	}
	r := rand.New(rand.NewSource(1))
	list := []*big.Int{largest(), power(2, maxBits, -2), power(2, maxBits-1, 0), power(6, 10000, 0), power(10, 9000, 0)}
	for _, size := range []int{1, 2, 3, 40, 300, 1024} {
		list = append(list, bigNat(natural(r, size)))
	}
	for _, x := range list {
		for _, y := range list {
			num := new(big.Int).Neg(x)
			got, e := ratio.New(integer(num), integer(y))
			same(t, "New", got, e, new(big.Rat).SetFrac(num, y))
		}
	}
}

func TestCmp(t *testing.T) { // P3.1
	list := append(numbers(), largeNumbers()...)
	for _, a := range list {
		for _, b := range list {
			if got, want := order(t, a, b), oracle(a).Cmp(oracle(b)); got != want {
				t.Fatalf("Cmp of %v and %v: %d", a, b, got)
			}
		}
	}
}

func TestOperations(t *testing.T) { // P3.2
	list := append(numbers(), largeNumbers()...)
	for i, a := range list {
		x := oracle(a)
		got, e := ratio.Neg(a)
		same(t, "Neg", got, e, new(big.Rat).Neg(x))
		got, e = ratio.Inv(a)
		if x.Sign() == 0 {
			failed(t, "Inv", got, e, api.ErrDiv)
		} else {
			same(t, "Inv", got, e, new(big.Rat).Inv(x))
		}
		for j, b := range list {
			if (i+j)%8 == 0 {
				checkPair(t, a, b)
			}
		}
	}
	r := rand.New(rand.NewSource(2))
	for range 300 {
		checkPair(t, number(r, 20), number(r, 20))
	}
}

// checkPair checks the operations on two numbers.
func checkPair(t *testing.T, a, b api.Rat) {
	t.Helper()
	x, y := oracle(a), oracle(b)
	got, e := ratio.Add(a, b)
	same(t, "Add", got, e, new(big.Rat).Add(x, y))
	got, e = ratio.Sub(a, b)
	same(t, "Sub", got, e, new(big.Rat).Sub(x, y))
	got, e = ratio.Mul(a, b)
	same(t, "Mul", got, e, new(big.Rat).Mul(x, y))
	got, e = ratio.Div(a, b)
	if y.Sign() == 0 {
		failed(t, "Div", got, e, api.ErrDiv)
		return
	}
	same(t, "Div", got, e, new(big.Rat).Quo(x, y))
}

func TestLongSums(t *testing.T) { // P3.2: the sum is short enough, but the products are not
	p, x, y := power(3, 10300, 2), power(5, 7000, 2), power(7, 5800, 4)
	px, py := new(big.Int).Mul(p, x), new(big.Int).Mul(p, y)
	s := new(big.Int).ModInverse(x, p)
	s.Mul(s, y).Neg(s).Mod(s, p) // y + s x is a multiple of p
	a, b := of(one, px), of(s, py)
	sum := new(big.Rat).Add(oracle(a), oracle(b))
	if !fits(oracle(a)) || !fits(oracle(b)) || !fits(sum) || new(big.Int).Mul(px, y).BitLen() < maxBits+1000 {
		t.Fatal("this is no test")
	}
	checkPair(t, a, b)
	checkPair(t, b, a)

	den, other := power(2, 500*32, 0), power(2, 500*32, 1) // numerators of 1024 elements, denominators of 501, and a small difference
	num := power(2, maxBits-1, -1)
	a, b = of(num, den), of(new(big.Int).Div(new(big.Int).Mul(num, other), den), other)
	if d := new(big.Rat).Sub(oracle(a), oracle(b)); !fits(oracle(a)) || !fits(oracle(b)) || d.Num().BitLen() > maxBits/2 {
		t.Fatal("this is no test")
	}
	checkPair(t, a, b)
	checkPair(t, b, a)
	checkPair(t, a, minus(b))

	huge, less := of(largest(), one), of(power(2, maxBits, -3), big.NewInt(2))
	checkPair(t, huge, minus(less))
	checkPair(t, huge, minus(huge))
	checkPair(t, huge, q(-1, 2))
	checkPair(t, of(one, largest()), of(one, power(2, maxBits, -2)))
}

func TestPow(t *testing.T) { // P3.2
	for _, a := range fractions(4, 4) {
		for k := -6; k <= 6; k++ {
			got, e := ratio.Pow(a, k)
			if len(a.Num.Abs) == 0 && k < 0 {
				failed(t, "Pow", got, e, api.ErrDiv)
				continue
			}
			want := big.NewRat(1, 1)
			for range max(k, -k) {
				want.Mul(want, oracle(a))
			}
			if k < 0 {
				want.Inv(want)
			}
			same(t, "Pow", got, e, want)
		}
	}
	for _, a := range []api.Rat{q(2, 1), q(-2, 1), q(1, 2), q(-1, 2)} {
		for _, k := range []int{maxBits - 1, 1 - maxBits} {
			got, e := ratio.Pow(a, k)
			want := new(big.Rat).SetInt(power(2, maxBits-1, 0))
			if (len(a.Den) == 1 && a.Den[0] == 2) == (k > 0) {
				want.Inv(want)
			}
			if a.Num.Neg {
				want.Neg(want)
			}
			same(t, "Pow", got, e, want)
		}
		for _, k := range []int{maxBits, -maxBits, api.MaxExpo, -api.MaxExpo, api.MaxExpo + 1, -api.MaxExpo - 1, math.MaxInt, math.MinInt} {
			got, e := ratio.Pow(a, k)
			failed(t, "Pow", got, e, api.ErrLimit)
		}
	}
	got, e := ratio.Pow(q(2, 3), 20674) // 3 to this power has the most bits that are allowed
	same(t, "Pow", got, e, new(big.Rat).SetFrac(power(2, 20674, 0), power(3, 20674, 0)))
	for _, k := range []int{20675, -20675} {
		got, e = ratio.Pow(q(2, 3), k)
		failed(t, "Pow", got, e, api.ErrLimit)
	}
}

func TestPowOfUnits(t *testing.T) { // P3.2: 0, 1 and -1 have all powers
	for _, k := range []int{1, 2, 3, api.MaxExpo, api.MaxExpo + 1, 1 << 40, 1<<40 + 1, math.MaxInt - 1, math.MaxInt} {
		sign := int64(1 - 2*(k%2))
		for _, c := range []struct {
			a    api.Rat
			k    int
			want int64
		}{{q(0, 1), k, 0}, {q(1, 1), k, 1}, {q(1, 1), -k, 1}, {q(-1, 1), k, sign}, {q(-1, 1), -k, sign}} {
			got, e := ratio.Pow(c.a, c.k)
			same(t, "Pow", got, e, big.NewRat(c.want, 1))
		}
		got, e := ratio.Pow(q(0, 1), -k)
		failed(t, "Pow", got, e, api.ErrDiv)
	}
	for a, want := range map[int]int64{1: 1, -1: 1} {
		got, e := ratio.Pow(q(a, 1), math.MinInt)
		same(t, "Pow", got, e, big.NewRat(want, 1))
	}
	got, e := ratio.Pow(q(0, 1), math.MinInt)
	failed(t, "Pow", got, e, api.ErrDiv)
}

// floor returns the greatest integer that is not above a number.
func floor(x *big.Rat) *big.Int {
	return new(big.Int).Div(x.Num(), x.Denom()) // for positive divisors this is rounded down
}

// rounded returns the integer to which a number is rounded.
func rounded(x *big.Rat, dir int) *big.Int {
	down := floor(x)
	up := new(big.Int).Neg(floor(new(big.Rat).Neg(x)))
	miss := new(big.Rat).Sub(x, new(big.Rat).SetInt(down))
	half := miss.Cmp(big.NewRat(1, 2))
	var isUp bool
	switch dir {
	case api.RdEven:
		isUp = half > 0 || half == 0 && down.Bit(0) == 1
	case api.RdAway:
		isUp = half > 0 || half == 0 && x.Sign() > 0
	case api.RdZero:
		isUp = x.Sign() < 0
	case api.RdUp:
		isUp = true
	}
	if isUp {
		return up
	}
	return down
}

func TestRounding(t *testing.T) { // P3.3
	r := rand.New(rand.NewSource(4))
	list := append(numbers(), largeNumbers()...)
	list = append(list, fractions(40, 6)...)
	for range 100 {
		x := new(big.Int).SetBit(bigNat(natural(r, 5)), 0, 1)
		list = append(list, number(r, 10), of(x, big.NewInt(2)), of(x.Neg(x), big.NewInt(2)))
	}
	for _, a := range list {
		got, e := ratio.Floor(a)
		sameInt(t, "Floor", got, e, floor(oracle(a)))
		for dir := api.RdEven; dir <= api.RdDown; dir++ {
			got, e := ratio.Round(a, dir)
			sameInt(t, "Round", got, e, rounded(oracle(a), dir))
		}
		for _, dir := range []int{api.RdEven - 1, api.RdDown + 1, -1, math.MinInt, math.MaxInt} {
			if got, e := ratio.Round(a, dir); e != api.ErrArg || got.Neg || len(got.Abs) > 0 {
				t.Fatalf("Round in the direction %d: %v, error %d", dir, got, e)
			}
		}
	}
}

// terms returns the terms of a continued fraction.
func terms(x *big.Rat) []*big.Int {
	first := floor(x)
	list := []*big.Int{first}
	rest := new(big.Rat).Sub(x, new(big.Rat).SetInt(first))
	if rest.Sign() != 0 {
		list = append(list, terms(rest.Inv(rest))...)
	}
	return list
}

// fraction returns the number with some terms.
func fraction(l []*big.Int) *big.Rat {
	x := new(big.Rat).SetInt(l[len(l)-1])
	for i := len(l) - 2; i >= 0; i-- {
		x.Inv(x).Add(x, new(big.Rat).SetInt(l[i]))
	}
	return x
}

// integers returns integers of package big.
func integers(l []*big.Int) []api.Int {
	var list []api.Int
	for _, x := range l {
		list = append(list, integer(x))
	}
	return list
}

func TestTerms(t *testing.T) { // P3.4
	r := rand.New(rand.NewSource(5))
	list := append(numbers(), largeNumbers()...)
	for range 100 {
		list = append(list, number(r, 12))
	}
	for _, a := range list {
		want := terms(oracle(a))
		got, e := ratio.Terms(a)
		if e != api.OK || len(got) != len(want) {
			t.Fatalf("Terms of %v: %v, error %d", a, got, e)
		}
		convergents, f := ratio.Convergents(a)
		if f != api.OK || len(convergents) != len(want) {
			t.Fatalf("Convergents of %v: %d, error %d", a, len(convergents), f)
		}
		for i, term := range got {
			sameInt(t, "Terms", term, e, want[i])
			if i < 60 {
				same(t, "Convergents", convergents[i], f, fraction(want[:i+1]))
			}
		}
		last := convergents[len(convergents)-1]
		identical(t, "the last convergent", last, a)
	}
}

func TestFraction(t *testing.T) { // P3.4
	r := rand.New(rand.NewSource(6))
	for range 300 {
		var l []*big.Int
		for i := range 1 + r.Intn(30) {
			x := bigNat(natural(r, r.Intn(3)))
			switch {
			case r.Intn(3) > 0:
				x.SetInt64(int64(1 + r.Intn(3)))
			case i > 0 && x.Sign() == 0:
				x.SetInt64(1)
			}
			if i == 0 && r.Intn(2) == 0 {
				x.Neg(x)
			}
			l = append(l, x)
		}
		got, e := ratio.Fraction(integers(l))
		same(t, "Fraction", got, e, fraction(l))
	}
	for first := -3; first <= 3; first++ {
		for second := 1; second <= 3; second++ {
			for third := 1; third <= 3; third++ {
				l := []*big.Int{big.NewInt(int64(first)), big.NewInt(int64(second)), big.NewInt(int64(third))}
				for size := 1; size <= 3; size++ {
					got, e := ratio.Fraction(integers(l[:size]))
					same(t, "Fraction", got, e, fraction(l[:size]))
				}
			}
		}
	}
}

func TestFractionArguments(t *testing.T) { // P3.4
	for i, l := range [][]api.Int{nil, {}, {n(1), n(0)}, {n(1), n(2), n(-1)}, {n(1), n(0), n(2)}, {{Neg: true}}, {n(1), {Abs: api.Nat{1, 0}}}, {n(1), n(2), {Abs: make(api.Nat, 1025)}}, make([]api.Int, api.MaxText+1)} {
		if got, e := ratio.Fraction(l); e != api.ErrArg || !isNothing(got) {
			t.Errorf("%d: %v, error %d", i, got, e)
		}
	}
	huge := integer(largest())
	bad := []api.Int{huge, huge, huge, n(0)} // also if too large a number is met before
	got, e := ratio.Fraction(bad)
	failed(t, "Fraction", got, e, api.ErrArg)
	got, e = ratio.Fraction(bad[:3])
	failed(t, "Fraction", got, e, api.ErrLimit)

	ones := make([]api.Int, api.MaxText+1)
	for i := range ones {
		ones[i] = n(1)
	}
	got, e = ratio.Fraction(ones)
	failed(t, "Fraction of too many terms", got, e, api.ErrArg)
	got, e = ratio.Fraction(ones[:api.MaxText])
	a, b := big.NewInt(1), big.NewInt(1)
	for range api.MaxText - 1 {
		a, b = b, a.Add(a, b)
	}
	same(t, "Fraction", got, e, new(big.Rat).SetFrac(b, a))
}

func TestLongFractions(t *testing.T) { // P3.4: products that are too long, where what comes of them is not
	half := power(2, maxBits-1, 0)
	minusHalf := new(big.Int).Neg(half)
	minusLargest := new(big.Int).Neg(largest())
	for _, l := range [][]*big.Int{
		{minusHalf, big.NewInt(2)},
		{minusHalf, big.NewInt(1), big.NewInt(1)},
		{minusHalf, big.NewInt(1), big.NewInt(2)},
		{half, big.NewInt(2)},
		{power(2, maxBits-1, -1), big.NewInt(2)},
		{minusLargest},
		{minusLargest, big.NewInt(1)},
		{minusLargest, big.NewInt(2)},
		{largest()},
		{largest(), big.NewInt(1)},
		{power(2, maxBits, -2), big.NewInt(1)},
		{big.NewInt(0), largest()},
		{big.NewInt(0), largest(), big.NewInt(1)},
		{big.NewInt(-1), largest()},
		{big.NewInt(-2), largest()},
		{big.NewInt(-2), half, big.NewInt(1), big.NewInt(1)},
		{new(big.Int).Neg(power(2, maxBits/2, 0)), power(2, maxBits/2, 0)},
		{new(big.Int).Neg(power(2, maxBits/2, 0)), power(2, maxBits/2, 1)},
	} {
		want := fraction(l)
		got, e := ratio.Fraction(integers(l))
		same(t, "Fraction", got, e, want)
		if !fits(want) {
			continue
		}
		convergents, e := ratio.Convergents(got)
		exact := terms(want)
		if e != api.OK || len(convergents) != len(exact) {
			t.Fatal("Convergents:", len(convergents), e)
		}
		for i := range exact {
			same(t, "Convergents", convergents[i], e, fraction(exact[:i+1]))
		}
	}
}

// nearest returns the number nearest to another one with a denominator that is not above a bound, by trying all.
func nearest(x *big.Rat, most int) *big.Rat {
	var best, miss *big.Rat
	for den := 1; den <= most; den++ {
		scaled := new(big.Rat).Mul(x, big.NewRat(int64(den), 1))
		for more := range int64(2) {
			num := new(big.Int).Add(floor(scaled), big.NewInt(more))
			y := new(big.Rat).SetFrac(num, big.NewInt(int64(den)))
			d := new(big.Rat).Sub(x, y)
			d.Abs(d)
			if best == nil || d.Cmp(miss) < 0 || d.Cmp(miss) == 0 && simpler(y, best) {
				best, miss = y, d
			}
		}
	}
	return best
}

func TestNear(t *testing.T) { // P3.5
	list := fractions(23, 12)
	r := rand.New(rand.NewSource(7))
	for range 60 {
		list = append(list, number(r, 4))
	}
	for _, a := range list {
		for most := 1; most <= 14; most++ {
			got, e := ratio.Near(a, n(most).Abs)
			same(t, "Near", got, e, nearest(oracle(a), most))
		}
	}
	for _, c := range []struct {
		a    api.Rat
		most int
		want *big.Rat
	}{{q(415, 93), 10, big.NewRat(40, 9)}, {q(1, 2), 1, big.NewRat(0, 1)}, {q(-1, 2), 1, big.NewRat(0, 1)}, {q(3, 2), 1, big.NewRat(1, 1)}, {q(-3, 2), 1, big.NewRat(-1, 1)}, {q(314159, 100000), 200, big.NewRat(355, 113)}} {
		got, e := ratio.Near(c.a, n(c.most).Abs)
		same(t, "Near", got, e, c.want)
	}
}

func TestNearArguments(t *testing.T) { // P3.5
	for _, most := range []api.Nat{nil, {}, {0}, {5, 0}, make(api.Nat, 1025), integer(power(2, maxBits, 0)).Abs} {
		got, e := ratio.Near(q(1, 2), most)
		failed(t, "Near", got, e, api.ErrArg)
	}
}

func TestNearOfLargeNumbers(t *testing.T) { // P3.5
	for _, a := range largeNumbers() {
		x := oracle(a)
		for _, most := range []int{1, 2, 3, 5} {
			got, e := ratio.Near(a, n(most).Abs)
			same(t, "Near", got, e, nearest(x, most))
		}
		for _, more := range []int64{-1, 0, 1} { // bounds around the denominator
			bound := new(big.Int).Add(x.Denom(), big.NewInt(more))
			if bound.Sign() <= 0 || bound.BitLen() > maxBits {
				continue
			}
			got, e := ratio.Near(a, integer(bound).Abs)
			if more >= 0 {
				same(t, "Near", got, e, x)
				continue
			}
			checkNearest(t, x, got, e, bound)
		}
		half := new(big.Int).Rsh(x.Denom(), uint(x.Denom().BitLen()/2))
		got, e := ratio.Near(a, integer(half).Abs)
		checkNearest(t, x, got, e, half)
	}
}

// checkNearest checks that a result is nearest to x among the numbers with a denominator up to a bound: its neighbours among these are farther.
func checkNearest(t *testing.T, x *big.Rat, got api.Rat, e api.Errno, bound *big.Int) {
	t.Helper()
	if e != api.OK || !isRat(got) || bigNat(got.Den).Cmp(bound) > 0 {
		t.Fatalf("Near: error %d, or no number with a denominator below the bound", e)
	}
	y := oracle(got)
	miss := new(big.Rat).Sub(x, y)
	for _, side := range []int64{-1, 1} {
		next := neighbour(y, bound, side)
		d := new(big.Rat).Sub(x, next)
		if c := d.Abs(d).Cmp(new(big.Rat).Abs(miss)); c < 0 || c == 0 && simpler(next, y) {
			t.Fatal("Near: a neighbour is nearer")
		}
	}
}

// neighbour returns the number next to y (above it, or below it for the side -1) among those with a denominator up to a bound.
func neighbour(y *big.Rat, bound *big.Int, side int64) *big.Rat {
	num, den := y.Num(), y.Denom()
	// a/b with a den - b num = side, and the greatest b up to the bound
	b := new(big.Int)
	if den.Cmp(one) == 0 {
		b.Set(bound)
	} else {
		b.ModInverse(new(big.Int).Mul(num, big.NewInt(-side)), den)
		more := new(big.Int).Sub(bound, b)
		b.Add(b, more.Div(more, den).Mul(more, den))
	}
	a := new(big.Int).Mul(b, num)
	a.Add(a, big.NewInt(side)).Div(a, den)
	return new(big.Rat).SetFrac(a, b)
}

// simplestBetween returns the simplest number of an interval by trying all denominators, or nil, if there is none.
func simplestBetween(lo, hi *big.Rat, openLo, openHi bool) *big.Rat {
	if c := lo.Cmp(hi); c > 0 || c == 0 && (openLo || openHi) {
		return nil
	}
	for den := int64(1); ; den++ {
		low := new(big.Rat).Mul(lo, big.NewRat(den, 1))
		var best *big.Rat
		for num := floor(low).Int64(); ; num++ {
			y := big.NewRat(num, den)
			if c := y.Cmp(hi); c > 0 || c == 0 && openHi {
				break
			}
			if c := y.Cmp(lo); (c > 0 || c == 0 && !openLo) && (best == nil || simpler(y, best)) {
				best = y
			}
		}
		if best != nil {
			return best
		}
	}
}

func TestSimplest(t *testing.T) { // P3.6
	list := fractions(7, 5)
	list = append(list, q(13, 8), q(-13, 8), q(21, 13), q(34, 21), q(-34, 21), q(100, 7), q(1, 30), q(-1, 30), q(3, 10), q(2, 5))
	for _, lo := range list {
		for _, hi := range list {
			for open := range 4 {
				openLo, openHi := open&1 == 1, open&2 == 2
				want := simplestBetween(oracle(lo), oracle(hi), openLo, openHi)
				got, e := ratio.Simplest(lo, hi, openLo, openHi)
				if want == nil {
					failed(t, "Simplest", got, e, api.ErrNone)
					continue
				}
				same(t, "Simplest", got, e, want)
			}
		}
	}
}

func TestSimplestOfLargeNumbers(t *testing.T) { // P3.6
	full := new(big.Rat).SetInt(largest())
	x := power(2, maxBits-1, 0)
	y := new(big.Int).Add(x, one)
	next := new(big.Int).Sub(largest(), one)
	for i, c := range []struct {
		lo, hi         api.Rat
		openLo, openHi bool
		want           *big.Rat
	}{
		{of(x, one), of(y, one), true, true, new(big.Rat).SetFrac(new(big.Int).Add(x, y), big.NewInt(2))}, // too large
		{of(next, one), of(largest(), one), true, false, full},
		{of(next, one), of(largest(), one), true, true, new(big.Rat).SetFrac(power(2, maxBits+1, -3), big.NewInt(2))},
		{q(0, 1), of(one, largest()), true, false, new(big.Rat).Inv(full)},
		{q(0, 1), of(one, largest()), true, true, new(big.Rat).SetFrac(one, power(2, maxBits, 0))},
		{q(0, 1), of(one, next), true, true, new(big.Rat).Inv(full)},
		{of(one, largest()), of(one, next), false, true, new(big.Rat).Inv(full)},
		{of(one, largest()), of(one, next), true, true, new(big.Rat).SetFrac(big.NewInt(2), power(2, maxBits+1, -3))},
		{of(largest(), one), of(largest(), one), false, false, full},
		{minus(of(largest(), one)), of(largest(), one), true, true, new(big.Rat)},
		{of(largest(), next), of(largest(), next), false, false, new(big.Rat).SetFrac(largest(), next)},
	} {
		got, e := ratio.Simplest(c.lo, c.hi, c.openLo, c.openHi)
		same(t, "Simplest", got, e, c.want)
		got, e = ratio.Simplest(minus(c.hi), minus(c.lo), c.openHi, c.openLo)
		same(t, "Simplest", got, e, new(big.Rat).Neg(c.want))
		if i < 9 && c.openLo != c.openHi {
			got, e = ratio.Simplest(c.hi, c.lo, false, false)
			failed(t, "Simplest", got, e, api.ErrNone)
		}
	}
}

func TestText(t *testing.T) { // P3.7
	for _, a := range append(numbers(), largeNumbers()...) {
		x := oracle(a)
		want := x.RatString()
		got, e := ratio.Text(a)
		if e != api.OK || got != want {
			t.Fatalf("Text: %s, error %d, not %s", got, e, want)
		}
		back, e := ratio.Parse(got)
		same(t, "Parse", back, e, x)
	}
}

func TestParse(t *testing.T) { // P3.7
	for s, want := range map[string]*big.Rat{
		"0": big.NewRat(0, 1), "-0": big.NewRat(0, 1), "-0/5": big.NewRat(0, 1), "0/007": big.NewRat(0, 1), "000": big.NewRat(0, 1),
		"007": big.NewRat(7, 1), "6/4": big.NewRat(3, 2), "-06/004": big.NewRat(-3, 2), "-12/3": big.NewRat(-4, 1), "1/1": big.NewRat(1, 1),
		"4294967296/8589934592": big.NewRat(1, 2), "18446744073709551616/36893488147419103232": big.NewRat(1, 2),
	} {
		got, e := ratio.Parse(s)
		same(t, "Parse "+s, got, e, want)
	}
	for _, s := range []string{"", "-", "/", "1/", "/2", "-/2", "6/-4", "--1", "+1", "1/+2", "1.5", "1e5", " 1", "1 ", "1 /2", "1/ 2", "1/2/3", "1//2", "0x1", "1/2 ", "a", "1a", "1/a", "-1/-2", "1_0", "\x001", "1\x00", "１", "1-", "1/2-"} {
		got, e := ratio.Parse(s)
		failed(t, "Parse "+s, got, e, api.ErrForm)
	}
	for _, s := range []string{"1/0", "0/0", "-5/000", "0/0000000000", "1/" + strings.Repeat("0", 19998)} {
		got, e := ratio.Parse(s)
		failed(t, "Parse "+s, got, e, api.ErrDiv)
	}
}

func TestParseLongTexts(t *testing.T) { // P3.7
	zeros := func(n int) string { return strings.Repeat("0", n) }
	for _, c := range []struct {
		s    string
		want *big.Rat
	}{
		{zeros(19999) + "7", big.NewRat(7, 1)},
		{"-" + zeros(19993) + "6/004", big.NewRat(-3, 2)},
		{zeros(9999) + "1/" + zeros(9998) + "3", big.NewRat(1, 3)},
		{"1" + zeros(9998) + "/1" + zeros(9998), big.NewRat(1, 1)}, // what can be cancelled may be too large
		{"1" + zeros(9999) + "/2" + zeros(9998), big.NewRat(5, 1)},
		{"1" + zeros(19000) + "/1" + zeros(900), new(big.Rat).SetInt(power(10, 18100, 0))}, // too large
		{"1" + zeros(10700) + "/2" + zeros(9200), new(big.Rat).SetInt(power(10, 1500, 0).Quo(power(10, 1500, 0), big.NewInt(2)))},
		{power(3, 20000, 0).String() + "/" + power(3, 20001, 0).String(), big.NewRat(1, 3)},
		{power(7, 11700, 0).String() + "/" + power(14, 8800, 0).String(), new(big.Rat).SetFrac(power(7, 2900, 0), power(2, 8800, 0))},
		{strings.Repeat("9", 10000) + "/" + strings.Repeat("9", 5000), new(big.Rat).SetInt(power(10, 5000, 1))},
		{strings.Repeat("9", 9999) + "/" + strings.Repeat("9", 10000), new(big.Rat).SetFrac(power(10, 9999, -1), power(10, 10000, -1))}, // too large
		{"0/1" + zeros(19997), new(big.Rat)},
		{largest().String() + "/" + power(2, maxBits, -2).String(), new(big.Rat).SetFrac(largest(), power(2, maxBits, -2))},
		{power(2, maxBits, 0).String(), new(big.Rat).SetInt(power(2, maxBits, 0))}, // too large
		{"1/" + power(2, maxBits, 0).String(), new(big.Rat).SetFrac(one, power(2, maxBits, 0))},
		{"3/" + new(big.Int).Mul(big.NewInt(3), largest()).String(), new(big.Rat).SetFrac(one, largest())},
	} {
		if len(c.s) > api.MaxText {
			t.Fatal("this is no test:", len(c.s))
		}
		got, e := ratio.Parse(c.s)
		same(t, "Parse "+c.s[:20], got, e, c.want)
	}
	for _, s := range []string{zeros(20001), strings.Repeat("x", 20001), zeros(20000) + "/", "1/" + zeros(19999), strings.Repeat("9", 20000)} {
		got, e := ratio.Parse(s)
		failed(t, "Parse of a long text", got, e, api.ErrLimit)
	}
	got, e := ratio.Parse(strings.Repeat("9", 19999) + "/")
	failed(t, "Parse of a long text", got, e, api.ErrForm)
	got, e = ratio.Parse(strings.Repeat("9", 19998) + "/0")
	failed(t, "Parse of a long text", got, e, api.ErrDiv)
}

// decimalOf returns the decimal of a number by the rules of school.
func decimalOf(x *big.Rat) string {
	den := x.Denom()
	integer, rest := new(big.Int).QuoRem(new(big.Int).Abs(x.Num()), den, new(big.Int))
	s := integer.String()
	if x.Sign() < 0 {
		s = "-" + s
	}
	if rest.Sign() == 0 {
		return s
	}
	digits := ""
	places := map[string]int{}
	for rest.Sign() != 0 {
		key := rest.Text(62)
		if at, ok := places[key]; ok {
			return s + "." + digits[:at] + "(" + digits[at:] + ")"
		}
		places[key] = len(digits)
		digit, left := new(big.Int).QuoRem(rest.Mul(rest, big.NewInt(10)), den, new(big.Int))
		digits += digit.String()
		rest = left
	}
	return s + "." + digits
}

func TestDecimal(t *testing.T) { // P3.8
	list := fractions(13, 60)
	list = append(list, fractions(101, 4)...)
	for _, den := range []int64{97, 128, 250, 487, 625, 997, 1024, 1000, 3125, 4999, 99999, 96} {
		list = append(list, q(1, int(den)), q(-int(den)-1, int(den)), own(new(big.Rat).SetFrac(power(3, 70, 0), big.NewInt(den))))
	}
	for _, a := range list {
		want := decimalOf(oracle(a))
		got, e := ratio.Decimal(a)
		if e != api.OK || got != want {
			t.Fatalf("Decimal of %v: %s, error %d, not %s", a, got, e, want)
		}
		back, e := ratio.ParseDecimal(got)
		same(t, "ParseDecimal "+got, back, e, oracle(a))
	}
}

func TestDecimalLimit(t *testing.T) { // P3.8
	sevenths := func(n int) api.Rat { // of n digits, and 6 in the period
		return of(one, new(big.Int).Mul(big.NewInt(7), power(2, n, 0)))
	}
	for i, c := range []struct {
		a    api.Rat
		size int // of the decimal
	}{
		{of(one, power(2, 19998, 0)), 20000},
		{minus(of(one, power(2, 19997, 0))), 20000},
		{minus(of(one, power(2, 19998, 0))), 20001},
		{of(one, power(2, 19999, 0)), 20001},
		{of(one, power(5, 14112, 0)), 14114}, // ten times a rest has too many elements
		{of(power(5, 14112, -1), power(5, 14112, 0)), 14114},
		{sevenths(19990), 20000},
		{minus(sevenths(19990)), 20001},
		{sevenths(19991), 20001},
		{sevenths(19994), 20004},
		{q(1, 17389), 17388 + 4}, // 10 is a primitive root
		{q(1, 19979), 19978 + 4},
		{q(-1, 19979), 19978 + 5},
		{q(1, 2*19979), 19978 + 5},
		{q(12345678, 19979), 19978 + 6},
		{of(power(10, 30, 1), big.NewInt(19979)), 19978 + 29},
		{of(one, power(10, 9864, -1)), 9864 + 4},
		{of(power(10, 9864, -2), power(10, 9864, -1)), 9864 + 4},
		{of(largest(), one), 9865},
		{q(1, 1<<40+15), 20001},
	} {
		got, e := ratio.Decimal(c.a)
		if c.size > api.MaxText {
			if e != api.ErrLimit || got != "" {
				t.Fatalf("%d: %d bytes, error %d", i, len(got), e)
			}
			continue
		}
		if e != api.OK || len(got) != c.size {
			t.Fatalf("%d: %d bytes, error %d", i, len(got), e)
		}
		back, e := ratio.ParseDecimal(got)
		same(t, "ParseDecimal", back, e, oracle(c.a))
	}
}

func TestParseDecimal(t *testing.T) { // P3.8
	for s, want := range map[string]*big.Rat{
		"0": big.NewRat(0, 1), "-0": big.NewRat(0, 1), "-0.0": big.NewRat(0, 1), "0.(0)": big.NewRat(0, 1), "-0.00(000)": big.NewRat(0, 1),
		"12": big.NewRat(12, 1), "-0012": big.NewRat(-12, 1), "00.50": big.NewRat(1, 2), "-1.25": big.NewRat(-5, 4), "1.5(0)": big.NewRat(3, 2),
		"0.(9)": big.NewRat(1, 1), "0.4(9)": big.NewRat(1, 2), "-9.(99)": big.NewRat(-10, 1), "0.(3)": big.NewRat(1, 3), "0.(33)": big.NewRat(1, 3), "0.3(3)": big.NewRat(1, 3), "0.33(333)": big.NewRat(1, 3),
		"0.(142857)": big.NewRat(1, 7), "0.1(428571)": big.NewRat(1, 7), "3.(142857)": big.NewRat(22, 7), "0.1(6)": big.NewRat(1, 6), "0.08(3)": big.NewRat(1, 12), "5.(01)": big.NewRat(496, 99), "0.0(01)": big.NewRat(1, 990),
		"4294967296.5": big.NewRat(8589934593, 2),
	} {
		got, e := ratio.ParseDecimal(s)
		same(t, "ParseDecimal "+s, got, e, want)
	}
	for _, s := range []string{"", "-", ".", "1.", "-1.", ".5", "-.5", "1.(", "1.()", "1.5()", "1.(3)4", "1(3)", "1.5(3", "1.5)", "1.(3))", "1.((3))", "1,5", "+1", "--1", "1.5.5", "1.-5", " 1", "1 ", "1. 5", "1e5", "1/2", "0x1", "1.(a)", "1.a", "1.(-3)", "(3)", "1.(3)(4)", "1.3(4", "1_0"} {
		got, e := ratio.ParseDecimal(s)
		failed(t, "ParseDecimal "+s, got, e, api.ErrForm)
	}
}

func TestParseLongDecimals(t *testing.T) { // P3.8
	zeros := func(n int) string { return strings.Repeat("0", n) }
	for _, c := range []struct {
		s    string
		want *big.Rat
	}{
		{zeros(19999) + "7", big.NewRat(7, 1)},
		{"1." + zeros(19998), big.NewRat(1, 1)},
		{"-1.5" + zeros(19996), big.NewRat(-3, 2)},
		{"0.(" + strings.Repeat("9", 19996) + ")", big.NewRat(1, 1)},
		{"0.(" + strings.Repeat("142857", 3332) + ")", big.NewRat(1, 7)},
		{"0." + strings.Repeat("6", 9000) + "(" + strings.Repeat("6", 10996) + ")", big.NewRat(2, 3)},
		{"0." + zeros(19997) + "1", new(big.Rat).SetFrac(one, power(10, 19998, 0))}, // too large
		{"0." + zeros(9863) + "1", new(big.Rat).SetFrac(one, power(10, 9864, 0))},
		{"0.(" + zeros(9863) + "1)", new(big.Rat).SetFrac(one, power(10, 9864, -1))},
		{"0.(" + zeros(9864) + "1)", new(big.Rat).SetFrac(one, power(10, 9865, -1))}, // too large
		{largest().String(), new(big.Rat).SetInt(largest())},
		{largest().String() + ".(9)", new(big.Rat).SetInt(power(2, maxBits, 0))}, // too large
		{power(2, maxBits, -2).String() + ".(9)", new(big.Rat).SetInt(largest())},
		{strings.Repeat("9", 20000), new(big.Rat).SetInt(power(10, 20000, -1))}, // too large
	} {
		if len(c.s) > api.MaxText {
			t.Fatal("this is no test:", len(c.s))
		}
		got, e := ratio.ParseDecimal(c.s)
		same(t, "ParseDecimal "+c.s[:20], got, e, c.want)
	}
	for _, s := range []string{zeros(20001), "0." + zeros(19999), strings.Repeat("x", 20001), zeros(20000) + "."} {
		got, e := ratio.ParseDecimal(s)
		failed(t, "ParseDecimal of a long text", got, e, api.ErrLimit)
	}
	got, e := ratio.ParseDecimal(strings.Repeat("9", 19999) + ".")
	failed(t, "ParseDecimal of a long text", got, e, api.ErrForm)
}
