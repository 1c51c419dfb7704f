// Package word calculates with words of 128 bits, in which the coefficients and the bits of all data fit.
package word

import (
	"cmp"
	"math/bits"

	"soroban/api"
)

// Size is how many bits a word has.
const Size = 128

// How many bits an element of a natural number has, and half of a word.
const (
	elementBits = 32
	halfBits    = 64
)

// Word is 128 bits, or the natural number that they are.
type Word api.Raw

// Scaled returns n times 2^by.
func Scaled(n, by int) Word {
	return Word{Lo: uint64(n)}.Up(by)
}

// Of returns a natural number below 2^128.
func Of(a api.Nat) Word {
	var halves [2]uint64
	for i, x := range a {
		halves[i/2] |= uint64(x) << (i % 2 * elementBits)
	}
	return Word{Hi: halves[1], Lo: halves[0]}
}

// TenTo returns 10 to the power of n, which is at most 38.
func TenTo(n int) Word {
	power := Word{Lo: 1}
	for range n {
		power = power.Times(10)
	}
	return power
}

// Nat returns a word as a natural number, in new memory.
func (w Word) Nat() api.Nat {
	n := (w.Size() + elementBits - 1) / elementBits
	if n == 0 {
		return nil
	}
	a := make(api.Nat, n)
	for i := range a {
		a[i] = uint32(w.Down(i * elementBits).Lo)
	}
	return a
}

// Size returns how many binary digits a number has, which is 0 for 0.
func (w Word) Size() int {
	if w.Hi != 0 {
		return halfBits + bits.Len64(w.Hi)
	}
	return bits.Len64(w.Lo)
}

// Zeros returns how many of the last binary digits are 0, for a number other than 0.
func (w Word) Zeros() int {
	if w.Lo == 0 {
		return halfBits + bits.TrailingZeros64(w.Hi)
	}
	return bits.TrailingZeros64(w.Lo)
}

// Up returns a number times 2^n, without what does not fit in a word. (The shifts are by uints: one that would be by less than 0 is by so much that nothing is left.)
func (w Word) Up(n int) Word {
	by := uint(n)
	return Word{Hi: w.Hi<<by | w.Lo>>(halfBits-by) | w.Lo<<(by-halfBits), Lo: w.Lo << by}
}

// Down returns the quotient of a number by 2^n.
func (w Word) Down(n int) Word {
	by := uint(n)
	return Word{Hi: w.Hi >> by, Lo: w.Lo>>by | w.Hi<<(halfBits-by) | w.Hi>>(by-halfBits)}
}

// Last returns the last n bits.
func (w Word) Last(n int) Word {
	return w.Minus(w.Down(n).Up(n))
}

// Plus returns w + v, without what does not fit in a word.
func (w Word) Plus(v Word) Word {
	low, carry := bits.Add64(w.Lo, v.Lo, 0)
	high, _ := bits.Add64(w.Hi, v.Hi, carry)
	return Word{Hi: high, Lo: low}
}

// Minus returns w - v, for v not above w.
func (w Word) Minus(v Word) Word {
	low, borrow := bits.Sub64(w.Lo, v.Lo, 0)
	high, _ := bits.Sub64(w.Hi, v.Hi, borrow)
	return Word{Hi: high, Lo: low}
}

// Times returns w times n, without what does not fit in a word.
func (w Word) Times(n uint64) Word {
	carry, low := bits.Mul64(w.Lo, n)
	return Word{Hi: w.Hi*n + carry, Lo: low}
}

// Over returns the quotient of w by n, which is not 0, and the rest.
func (w Word) Over(n uint64) (quotient Word, rest uint64) {
	high, rest := bits.Div64(0, w.Hi, n)
	low, rest := bits.Div64(rest, w.Lo, n)
	return Word{Hi: high, Lo: low}, rest
}

// Compare returns -1, 0 or 1.
func (w Word) Compare(v Word) int {
	return cmp.Or(cmp.Compare(w.Hi, v.Hi), cmp.Compare(w.Lo, v.Lo))
}
