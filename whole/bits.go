package whole

import (
	"math/bits"

	"soroban/api"
	"soroban/guard"
	"soroban/nat"
)

// How many bits an element of a natural number has, and an element with all of them.
const (
	elementBits = 32
	allOnes     = 1<<elementBits - 1
)

// strip is the lowest bits of an integer, as two's complement has them, by elements of 32.
type strip []uint32

// lowest returns the n lowest elements of the bits of an integer.
func (a integer) lowest(n int) strip {
	s := make(strip, n)
	copy(s, a.Abs)
	if a.Neg {
		s.negate()
	}
	return s
}

// negate turns a strip itself into that of the opposite number.
func (s strip) negate() {
	carry := uint32(1)
	for i, x := range s {
		s[i], carry = bits.Add32(^x, 0, carry)
	}
}

// integer returns the integer with these bits, of which all others are like the last one; it overwrites s.
func (s strip) integer() integer {
	negative := s[len(s)-1]>>(elementBits-1) == 1
	if negative {
		s.negate()
	}
	return signed(negative, trimmed(api.Nat(s)))
}

// stripPair is the bits of two integers.
type stripPair struct {
	a, b strip
}

func (p stripPair) and(i int) uint32 { return p.a[i] & p.b[i] }
func (p stripPair) or(i int) uint32  { return p.a[i] | p.b[i] }
func (p stripPair) xor(i int) uint32 { return p.a[i] ^ p.b[i] }

// combined returns the integer whose bits an operation finds from those of two integers.
func (a integer) combined(b integer, op int) integer {
	n := max(len(a.Abs), len(b.Abs)) + 1 // from the last of these elements on all bits are equal
	p := stripPair{a.lowest(n), b.lowest(n)}
	operations := [...]func(i int) uint32{api.BiAnd: p.and, api.BiOr: p.or, api.BiXor: p.xor}
	element := operations[op]
	result := make(strip, n)
	for i := range result {
		result[i] = element(i)
	}
	return result.integer()
}

func (a integer) not() integer {
	return a.plus(fromInt(1)).opposite()
}

// shifted returns a times 2^n, rounded down.
func (a integer) shifted(n int) integer {
	switch {
	case n >= 0:
		return signed(a.Neg, guard.Found(nat.Shl(a.Abs, n)))
	case a.Neg: // the opposite bits are those of a number that is not negative
		return a.not().shifted(n).not()
	}
	return integer{Abs: guard.Found(nat.Shr(a.Abs, -max(n, -elementBits*api.MaxLimbs)))}
}

// wrapped returns the integer with the lowest bits of a, behind which all are 0, or, with a sign, like the last of them.
func (a integer) wrapped(size int, withSign bool) integer {
	s := a.lowest(size/elementBits + 1)
	last := size - 1
	ones := withSign && s[last/elementBits]>>(last%elementBits)&1 == 1
	s[size/elementBits] &= 1<<(size%elementBits) - 1
	if ones {
		s[size/elementBits] |= allOnes << (size % elementBits)
	}
	return s.integer()
}
