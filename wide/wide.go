// Package wide calculates with natural numbers and integers of any length: a result may be short enough for package nat where something on the way to it is not.
package wide

import (
	"cmp"
	"math/bits"

	"soroban/api"
	"soroban/guard"
	"soroban/nat"
)

// How many bits the elements of an api.Nat and of a Number have.
const (
	elementBits = 32
	wordBits    = 64
)

// Number is a natural number by elements of 64 bits, the least significant one first, without zeros at the end. What a function returns may share memory with its arguments, so nothing changes the elements of a Number that was given out.
type Number []uint64

// Of returns an api.Nat as a Number.
func Of(a api.Nat) Number {
	w := make(Number, (len(a)+1)/2)
	for i, x := range a {
		w[i/2] |= uint64(x) << (i % 2 * elementBits)
	}
	return w
}

// Nat returns a number as an api.Nat; one that is too large for it ends the call with ErrLimit.
func (w Number) Nat() api.Nat {
	guard.Must(w.fits(), api.ErrLimit)
	a := make(api.Nat, 2*len(w))
	for i, x := range w {
		a[2*i], a[2*i+1] = uint32(x), uint32(x>>elementBits)
	}
	if len(a) > 0 && a[len(a)-1] == 0 {
		a = a[:len(a)-1]
	}
	return a
}

// fits reports whether a number can be an api.Nat.
func (w Number) fits() bool {
	return len(w) <= api.MaxLimbs*elementBits/wordBits
}

// trimmed returns a number without the zeros at its end.
func (w Number) trimmed() Number {
	n := len(w)
	for n > 0 && w[n-1] == 0 {
		n--
	}
	return w[:n]
}

// Compare returns -1, 0 or 1.
func (w Number) Compare(v Number) int {
	if len(w) != len(v) {
		return cmp.Compare(len(w), len(v))
	}
	for i := len(w) - 1; i >= 0; i-- {
		if w[i] != v[i] {
			return cmp.Compare(w[i], v[i])
		}
	}
	return 0
}

// Plus returns a sum.
func (w Number) Plus(v Number) Number {
	if len(w) < len(v) {
		w, v = v, w
	}
	sum := make(Number, len(w)+1)
	copy(sum, v)
	var carry uint64
	for i, x := range w {
		sum[i], carry = bits.Add64(sum[i], x, carry)
	}
	sum[len(w)] = carry
	return sum.trimmed()
}

// Minus returns a difference, for v not above w.
func (w Number) Minus(v Number) Number {
	difference := make(Number, len(w))
	copy(difference, v)
	var borrow uint64
	for i, x := range w {
		difference[i], borrow = bits.Sub64(x, difference[i], borrow)
	}
	return difference.trimmed()
}

// Times returns a product.
func (w Number) Times(v Number) Number {
	product := make(Number, len(w)+len(v))
	for i, x := range w {
		over := product[i:].addTimes(v, x)
		product[i+len(v)] = over
	}
	return product.trimmed()
}

// CommonDivisor returns the greatest common divisor of two numbers.
func (w Number) CommonDivisor(v Number) Number {
	for len(v) > 0 && !(w.fits() && v.fits()) {
		_, rest := w.Over(v)
		w, v = v, rest
	}
	if len(v) == 0 {
		return w
	}
	return Of(guard.Found(nat.Gcd(w.Nat(), v.Nat())))
}

// Power returns a number to the power of n.
func (w Number) Power(n int) Number {
	power := Number{1}
	for i := bits.Len(uint(n)) - 1; i >= 0; i-- {
		power = power.Times(power)
		if n>>i&1 == 1 {
			power = power.Times(w)
		}
	}
	return power
}
