package ratio

import (
	"soroban/api"
	"soroban/guard"
	"soroban/nat"
	"soroban/whole"
	"soroban/wide"
)

// number is an api.Rat that is valid. What a method returns may share memory with the numbers that it was given: nothing changes the elements of a number, and what leaves the package is copied.
type number api.Rat

// signed returns an integer with a magnitude, which is negative if it says so and is not 0.
func signed(negative bool, magnitude api.Nat) api.Int {
	return api.Int{Neg: negative && len(magnitude) > 0, Abs: magnitude}
}

func isOne(a api.Nat) bool {
	return len(a) == 1 && a[0] == 1
}

// fromInt returns the number that an integer is.
func fromInt(n api.Int) number {
	return number{n, api.Nat{1}}
}

// compareNats returns -1, 0 or 1.
func compareNats(a, b api.Nat) int {
	return guard.Found(nat.Cmp(a, b))
}

func commonDivisor(a, b api.Nat) api.Nat {
	return guard.Found(nat.Gcd(a, b))
}

// part returns the quotient by a divisor.
func part(a, divisor api.Nat) api.Nat {
	q, _ := guard.FoundTwo(nat.Div(a, divisor))
	return q
}

func product(a, b api.Nat) api.Nat {
	return guard.Found(nat.Mul(a, b))
}

func sum(a, b api.Nat) api.Nat {
	return guard.Found(nat.Add(a, b))
}

// difference returns a - b, for b not above a.
func difference(a, b api.Nat) api.Nat {
	return guard.Found(nat.Sub(a, b))
}

// quotient returns that of two integers, of which the second is not 0.
func quotient(num, den api.Int) number {
	return wideQuotient(num.Neg != den.Neg, wide.Of(num.Abs), wide.Of(den.Abs))
}

// wideQuotient returns a quotient: its terms may be too large for an api.Nat as long as they have common divisors.
func wideQuotient(negative bool, num, den wide.Number) number {
	divisor := num.CommonDivisor(den)
	num, _ = num.Over(divisor)
	den, _ = den.Over(divisor)
	return number{signed(negative, num.Nat()), den.Nat()}
}

func (a number) isZero() bool {
	return len(a.Num.Abs) == 0
}

func (a number) opposite() number {
	return number{signed(!a.Num.Neg, a.Num.Abs), a.Den}
}

func (a number) reciprocal() number {
	guard.Must(!a.isZero(), api.ErrDiv)
	return number{signed(a.Num.Neg, a.Den), a.Num.Abs}
}

// timesNat returns the product of an integer and a natural number, which may be long.
func timesNat(a api.Int, b api.Nat) wide.Integer {
	return wide.IntegerOf(a).Times(wide.IntegerOf(api.Int{Abs: b}))
}

// compare returns the sign of the difference.
func (a number) compare(b number) int {
	return timesNat(a.Num, b.Den).Compare(timesNat(b.Num, a.Den))
}

// plus returns a sum. It cancels early: only a divisor of what both denominators have in common can be left in the sum of the products (Henrici's rule). This sum may be long where the result is not.
func (a number) plus(b number) number {
	common := commonDivisor(a.Den, b.Den)
	aPart, bPart := part(a.Den, common), part(b.Den, common)
	total := timesNat(a.Num, bPart).Plus(timesNat(b.Num, aPart))
	_, rest := total.Magnitude.Over(wide.Of(common))
	divisor := commonDivisor(common, rest.Nat())
	num, _ := total.Magnitude.Over(wide.Of(divisor))
	return number{signed(total.Negative, num.Nat()), product(aPart, part(b.Den, divisor))}
}

// times returns a product, of which all that can be cancelled is cancelled before anything is multiplied.
func (a number) times(b number) number {
	first, second := commonDivisor(a.Num.Abs, b.Den), commonDivisor(b.Num.Abs, a.Den)
	num := product(part(a.Num.Abs, first), part(b.Num.Abs, second))
	den := product(part(a.Den, second), part(b.Den, first))
	return number{signed(a.Num.Neg != b.Num.Neg, num), den}
}

// power returns the n-th power; of 0, 1 and -1 for any n.
func (a number) power(n int) number {
	switch {
	case n == 0:
		return fromInt(whole.FromInt(1))
	case a.isZero():
		guard.Must(n > 0, api.ErrDiv)
		return a
	case isOne(a.Num.Abs) && isOne(a.Den):
		return number{signed(a.Num.Neg && n%2 != 0, a.Num.Abs), a.Den}
	}
	guard.Must(n >= -api.MaxExpo && n <= api.MaxExpo, api.ErrLimit)
	if n < 0 {
		a, n = a.reciprocal(), -n
	}
	return number{guard.Found(whole.Pow(a.Num, n)), guard.Found(nat.Pow(a.Den, n))}
}
