// Package nat is layer 1: see shared/doc/01-nat.md.
package nat

import (
	"soroban/api"
	"soroban/guard"
)

// guarded does some work on numbers if they are valid, and returns the error with which the work has ended.
func guarded(work func(), given []api.Nat) api.Errno {
	return guard.Call(func() {
		for _, a := range given {
			guard.Must(Valid(a), api.ErrArg)
		}
		work()
	})
}

// one returns a number that is found from others.
func one(work func() natural, given ...api.Nat) (n api.Nat, e api.Errno) {
	e = guarded(func() { n = work().kept() }, given)
	return n, e
}

// two returns two numbers that are found from others.
func two(work func() (x, y natural), given ...api.Nat) (x, y api.Nat, e api.Errno) {
	e = guarded(func() {
		p, q := work()
		x, y = p.kept(), q.kept()
	}, given)
	return x, y, e
}

// kept returns a result: a copy, since a number may share its memory with an argument or with another result.
func (a natural) kept() api.Nat {
	if len(a.limited()) == 0 {
		return nil
	}
	result := make(api.Nat, len(a))
	copy(result, a)
	return result
}

// Valid reports whether a is a natural number.
func Valid(a api.Nat) bool {
	return len(a) <= api.MaxLimbs && (len(a) == 0 || a[len(a)-1] != 0)
}

// FromUint returns a natural number.
func FromUint(n uint64) api.Nat {
	return fromUint(n).kept()
}

// ToUint returns a natural number as a uint64.
func ToUint(a api.Nat) (uint64, api.Errno) {
	switch {
	case !Valid(a):
		return 0, api.ErrArg
	case len(a) > 2:
		return 0, api.ErrRange
	}
	return natural(a).uint(), api.OK
}

// Cmp compares two natural numbers.
func Cmp(a, b api.Nat) (int, api.Errno) {
	if !Valid(a) || !Valid(b) {
		return 0, api.ErrArg
	}
	return natural(a).compare(natural(b)), api.OK
}

// Bits returns how many bits a natural number has.
func Bits(a api.Nat) (int, api.Errno) {
	if !Valid(a) {
		return 0, api.ErrArg
	}
	return natural(a).bits(), api.OK
}

// Zeros returns how many bits at the end of a natural number are 0.
func Zeros(a api.Nat) (int, api.Errno) {
	if !Valid(a) {
		return 0, api.ErrArg
	}
	return natural(a).zeros(), api.OK
}

// Add returns a + b.
func Add(a, b api.Nat) (api.Nat, api.Errno) {
	return one(func() natural { return natural(a).plus(natural(b)) }, a, b)
}

// Sub returns a - b.
func Sub(a, b api.Nat) (api.Nat, api.Errno) {
	return one(func() natural {
		x, y := natural(a), natural(b)
		guard.Must(x.compare(y) >= 0, api.ErrRange)
		return x.minus(y)
	}, a, b)
}

// Mul returns a times b.
func Mul(a, b api.Nat) (api.Nat, api.Errno) {
	return product(byKaratsuba, a, b, mulCut)
}

// Div returns the quotient and the rest of a by b.
func Div(a, b api.Nat) (q, r api.Nat, e api.Errno) {
	return two(func() (natural, natural) {
		guard.Must(len(b) > 0, api.ErrDiv)
		return natural(a).over(natural(b))
	}, a, b)
}

// Pow returns a to the power of n.
func Pow(a api.Nat, n int) (api.Nat, api.Errno) {
	return one(func() natural {
		guard.Must(n >= 0, api.ErrArg)
		return natural(a).limitedPower(n)
	}, a)
}

// Root returns the n-th root of a, and what is left.
func Root(a api.Nat, n int) (root, rest api.Nat, e api.Errno) {
	return two(func() (natural, natural) {
		guard.Must(n >= 1, api.ErrArg)
		return natural(a).rootAndRest(n)
	}, a)
}

// Gcd returns the greatest common divisor.
func Gcd(a, b api.Nat) (api.Nat, api.Errno) {
	return one(func() natural { return natural(a).commonDivisor(natural(b)) }, a, b)
}

// Shl returns a times 2 to the power of n.
func Shl(a api.Nat, n int) (api.Nat, api.Errno) {
	return one(func() natural {
		x := natural(a)
		guard.Must(n >= 0, api.ErrArg)
		guard.Must(len(x) == 0 || n <= wordBits*api.MaxLimbs-x.bits(), api.ErrLimit)
		return x.shiftedLeft(n)
	}, a)
}

// Shr returns a divided by 2 to the power of n.
func Shr(a api.Nat, n int) (api.Nat, api.Errno) {
	return one(func() natural {
		guard.Must(n >= 0, api.ErrArg)
		return natural(a).shiftedRight(n)
	}, a)
}

// Parse returns the natural number whose digits are s.
func Parse(s string) (api.Nat, api.Errno) {
	return one(func() natural {
		guard.Must(len(s) <= api.MaxText, api.ErrLimit)
		guard.Must(isNumeral(s), api.ErrForm)
		return fromDigits(s)
	})
}

// Text returns the digits of a natural number.
func Text(a api.Nat) (string, api.Errno) {
	if !Valid(a) {
		return "", api.ErrArg
	}
	return natural(a).text(), api.OK
}

// School multiplies element by element.
func School(a, b api.Nat) (api.Nat, api.Errno) {
	return product(bySchool, a, b, 0)
}

// Karatsuba multiplies by three products of halves.
func Karatsuba(a, b api.Nat, cut int) (api.Nat, api.Errno) {
	return product(byKaratsuba, a, b, cut)
}

// Long divides element by element.
func Long(a, b api.Nat) (q, r api.Nat, e api.Errno) {
	return quotient(byLong, a, b, 0)
}

// Blocks divides by blocks of elements.
func Blocks(a, b api.Nat, cut int) (q, r api.Nat, e api.Errno) {
	return quotient(byBlocks, a, b, cut)
}

// Newton divides by a reciprocal.
func Newton(a, b api.Nat) (q, r api.Nat, e api.Errno) {
	return quotient(byNewton, a, b, 0)
}
