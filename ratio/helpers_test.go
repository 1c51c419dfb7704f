package ratio_test

import (
	"encoding/binary"
	"math/big"
	"math/rand"
	"slices"
	"testing"

	"soroban/api"
	"soroban/ratio"
)

const (
	most    = 1<<32 - 1 // the greatest element
	maxBits = 32 * api.MaxLimbs
)

// bigNat returns a natural number as package big has it.
func bigNat(a api.Nat) *big.Int {
	var bytes []byte
	for _, w := range slices.Backward(a) {
		bytes = binary.BigEndian.AppendUint32(bytes, w)
	}
	return new(big.Int).SetBytes(bytes)
}

// bigInt returns an integer as package big has it.
func bigInt(a api.Int) *big.Int {
	x := bigNat(a.Abs)
	if a.Neg {
		x.Neg(x)
	}
	return x
}

// oracle returns a number as package big has it.
func oracle(a api.Rat) *big.Rat {
	return new(big.Rat).SetFrac(bigInt(a.Num), bigNat(a.Den))
}

// integer returns an integer of package big, of any length.
func integer(x *big.Int) api.Int {
	a := api.Int{Neg: x.Sign() < 0}
	bytes := make([]byte, (x.BitLen()+31)/32*4)
	x.FillBytes(bytes)
	for i := len(bytes); i > 0; i -= 4 {
		a.Abs = append(a.Abs, binary.BigEndian.Uint32(bytes[i-4:]))
	}
	return a
}

// own returns a number of package big, with terms of any length.
func own(x *big.Rat) api.Rat {
	return api.Rat{Num: integer(x.Num()), Den: integer(x.Denom()).Abs}
}

// n returns an integer.
func n(i int) api.Int { return integer(big.NewInt(int64(i))) }

// q returns a quotient.
func q(num, den int) api.Rat { return own(big.NewRat(int64(num), int64(den))) }

// of returns a quotient of integers of package big.
func of(num, den *big.Int) api.Rat { return own(new(big.Rat).SetFrac(num, den)) }

// power returns a power, and something more or less.
func power(base, n, more int) *big.Int {
	x := new(big.Int).Exp(big.NewInt(int64(base)), big.NewInt(int64(n)), nil)
	return x.Add(x, big.NewInt(int64(more)))
}

// largest returns the greatest natural number.
func largest() *big.Int { return power(2, maxBits, -1) }

var one = big.NewInt(1)

// minus returns the opposite of a number.
func minus(a api.Rat) api.Rat { return own(new(big.Rat).Neg(oracle(a))) }

// invalid returns what is no rational number.
func invalid() []api.Rat {
	den := api.Nat{1}
	list := []api.Rat{
		{},
		{Num: n(5)},
		{Num: n(5), Den: api.Nat{}},
		{Num: n(5), Den: api.Nat{0}},
		{Num: n(5), Den: api.Nat{1, 0}},
		{Num: api.Int{Neg: true}, Den: den},
		{Num: api.Int{Abs: api.Nat{0}}, Den: den},
		{Num: api.Int{Abs: api.Nat{3, 0}}, Den: den},
		{Num: n(0), Den: api.Nat{2}},
		{Num: n(2), Den: api.Nat{4}},
		{Num: n(-3), Den: api.Nat{3}},
		{Num: integer(power(2, maxBits, 0)), Den: den},
		{Num: n(1), Den: integer(power(2, maxBits, 0)).Abs},
		{Num: integer(power(7, 5000, 0)), Den: integer(power(14, 4000, 0)).Abs},
	}
	return list
}

// natural returns some natural number of n elements. Most have many elements at the bounds.
func natural(r *rand.Rand, n int) api.Nat {
	edges := []uint32{0, 0, 1, 2, 1<<31 - 1, 1 << 31, 1<<31 + 1, most - 1, most, most}
	kind := r.Intn(3)
	a := make(api.Nat, n)
	for i := range a {
		if kind == 0 {
			a[i] = edges[r.Intn(len(edges))]
		} else {
			a[i] = r.Uint32()
		}
	}
	if n > 0 && a[n-1] == 0 {
		a[n-1] = 1
	}
	return a
}

// number returns some number with terms of at most n elements.
func number(r *rand.Rand, n int) api.Rat {
	num, den := bigNat(natural(r, r.Intn(n+1))), bigNat(natural(r, 1+r.Intn(n)))
	if r.Intn(3) == 0 { // small ones
		num, den = big.NewInt(int64(r.Intn(100))), big.NewInt(int64(1+r.Intn(100)))
	}
	if r.Intn(2) == 0 {
		num.Neg(num)
	}
	return of(num, den)
}

// fractions returns all numbers with a denominator and a magnitude of the numerator up to bounds.
func fractions(num, den int) []api.Rat {
	var list []api.Rat
	for d := 1; d <= den; d++ {
		for i := -num; i <= num; i++ {
			if new(big.Int).GCD(nil, nil, big.NewInt(int64(i)), big.NewInt(int64(d))).Int64() == 1 {
				list = append(list, q(i, d))
			}
		}
	}
	return list
}

// numbers returns the numbers at which something changes, and some others.
func numbers() []api.Rat {
	list := fractions(5, 4)
	for _, bits := range []int{31, 32, 33, 63, 64, 65, 96, 128} {
		for _, more := range []int{-1, 0, 1} {
			x := power(2, bits, more)
			for _, a := range []api.Rat{of(x, one), of(one, x), of(x, big.NewInt(3)), of(x, power(2, 60, 3))} {
				list = append(list, a, minus(a))
			}
		}
	}
	r := rand.New(rand.NewSource(3))
	for _, n := range []int{1, 2, 3, 8, 30} {
		list = append(list, number(r, n), number(r, n), number(r, n))
	}
	return list
}

// largeNumbers returns numbers near the limit.
func largeNumbers() []api.Rat {
	var list []api.Rat
	x, y := largest(), power(2, maxBits, -2)
	z := power(2, maxBits/2, 1)
	for _, a := range []api.Rat{of(x, one), of(one, x), of(x, y), of(y, x), of(x, big.NewInt(2)), of(power(2, maxBits-1, 0), one), of(x, z), of(z, x), of(power(2, maxBits-1, 1), power(2, maxBits-1, 0))} {
		list = append(list, a, minus(a))
	}
	return list
}

// fits reports whether a number of package big can be a result.
func fits(x *big.Rat) bool {
	return x.Num().BitLen() <= maxBits && x.Denom().BitLen() <= maxBits
}

// same checks the result of a call that should be the number want, or ErrLimit if want is too large.
func same(t *testing.T, what string, got api.Rat, e api.Errno, want *big.Rat) {
	t.Helper()
	if !fits(want) {
		failed(t, what, got, e, api.ErrLimit)
		return
	}
	if e != api.OK || !isRat(got) || oracle(got).Cmp(want) != 0 {
		t.Fatalf("%s: %v and error %d, not %v", what, got, e, want)
	}
}

// isRat reports whether a number has the form that api.Rat asks for, as package big sees it.
func isRat(a api.Rat) bool {
	return len(a.Den) > 0 && equal(own(oracle(a)), a)
}

// sameInt is same for integers.
func sameInt(t *testing.T, what string, got api.Int, e api.Errno, want *big.Int) {
	t.Helper()
	if e != api.OK || !equalInts(got, integer(want)) {
		t.Fatalf("%s: %v and error %d, not %v", what, got, e, want)
	}
}

// failed checks the result of a call that should be an error.
func failed(t *testing.T, what string, got api.Rat, e, want api.Errno) {
	t.Helper()
	if e != want || !isNothing(got) {
		t.Fatalf("%s: %d and %d elements and error %d, not error %d", what, len(got.Num.Abs), len(got.Den), e, want)
	}
}

func isNothing(a api.Rat) bool {
	return !a.Num.Neg && len(a.Num.Abs) == 0 && len(a.Den) == 0
}

// sure returns the result of a call that should have no error.
func sure(t *testing.T) func(a api.Rat, e api.Errno) api.Rat {
	return func(a api.Rat, e api.Errno) api.Rat {
		t.Helper()
		if e != api.OK || !ratio.Valid(a) {
			t.Fatalf("%v, error %d", a, e)
		}
		return a
	}
}

// identical checks that two numbers are the same.
func identical(t *testing.T, what string, a, b api.Rat) {
	t.Helper()
	if !equal(a, b) {
		t.Fatalf("%s: %v and %v", what, a, b)
	}
}

func equal(a, b api.Rat) bool {
	return equalInts(a.Num, b.Num) && slices.Equal(a.Den, b.Den)
}

func equalInts(a, b api.Int) bool {
	return a.Neg == b.Neg && slices.Equal(a.Abs, b.Abs)
}

// order returns Cmp of two numbers.
func order(t *testing.T, a, b api.Rat) int {
	t.Helper()
	c, e := ratio.Cmp(a, b)
	if e != api.OK || c < -1 || c > 1 {
		t.Fatalf("Cmp: %d, error %d", c, e)
	}
	return c
}

// simpler reports whether a number is simpler than another one.
func simpler(x, y *big.Rat) bool {
	if c := x.Denom().Cmp(y.Denom()); c != 0 {
		return c < 0
	}
	if c := x.Num().CmpAbs(y.Num()); c != 0 {
		return c < 0
	}
	return x.Sign() > y.Sign()
}
