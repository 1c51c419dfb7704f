package binary

import (
	"cmp"
	"math/bits"

	"soroban/api"
)

// How many bits an element of a natural number has, and half of a word.
const (
	elementBits = 32
	halfBits    = 64
)

// word is 128 bits, or the natural number that they are: all coefficients, places and bits of data fit in it.
type word api.Raw

// scaled returns n times 2^by.
func scaled(n, by int) word {
	return word{Lo: uint64(n)}.up(by)
}

// wordOf returns a natural number below 2^128.
func wordOf(a api.Nat) word {
	var halves [2]uint64
	for i, x := range a {
		halves[i/2] |= uint64(x) << (i % 2 * elementBits)
	}
	return word{Hi: halves[1], Lo: halves[0]}
}

// nat returns a word as a natural number, in new memory.
func (w word) nat() api.Nat {
	n := (w.size() + elementBits - 1) / elementBits
	if n == 0 {
		return nil
	}
	a := make(api.Nat, n)
	for i := range a {
		a[i] = uint32(w.down(i * elementBits).Lo)
	}
	return a
}

// size returns how many binary digits a number has, which is 0 for 0.
func (w word) size() int {
	if w.Hi != 0 {
		return halfBits + bits.Len64(w.Hi)
	}
	return bits.Len64(w.Lo)
}

// zeros returns how many of the last binary digits are 0, for a number other than 0.
func (w word) zeros() int {
	if w.Lo == 0 {
		return halfBits + bits.TrailingZeros64(w.Hi)
	}
	return bits.TrailingZeros64(w.Lo)
}

// up returns a number times 2^n, without what does not fit in a word. (The shifts are by uints: one that would be by less than 0 is by so much that nothing is left.)
func (w word) up(n int) word {
	by := uint(n)
	return word{Hi: w.Hi<<by | w.Lo>>(halfBits-by) | w.Lo<<(by-halfBits), Lo: w.Lo << by}
}

// down returns the quotient of a number by 2^n.
func (w word) down(n int) word {
	by := uint(n)
	return word{Hi: w.Hi >> by, Lo: w.Lo>>by | w.Hi<<(halfBits-by) | w.Hi>>(by-halfBits)}
}

// last returns the last n bits.
func (w word) last(n int) word {
	return w.minus(w.down(n).up(n))
}

func (w word) plus(v word) word {
	low, carry := bits.Add64(w.Lo, v.Lo, 0)
	high, _ := bits.Add64(w.Hi, v.Hi, carry)
	return word{Hi: high, Lo: low}
}

// minus returns w - v, for v not above w.
func (w word) minus(v word) word {
	low, borrow := bits.Sub64(w.Lo, v.Lo, 0)
	high, _ := bits.Sub64(w.Hi, v.Hi, borrow)
	return word{Hi: high, Lo: low}
}

func (w word) compare(v word) int {
	return cmp.Or(cmp.Compare(w.Hi, v.Hi), cmp.Compare(w.Lo, v.Lo))
}
