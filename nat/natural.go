package nat

import (
	"cmp"
	"math/bits"

	"soroban/api"
	"soroban/guard"
)

// wordBits is how many binary digits an element has.
const wordBits = 32

// natural is a number as the roads see it: an api.Nat without the limit of its length. What a method returns may share memory with the numbers that it was given, so only a number that was just made may be changed (by the methods that say so), and what leaves the package is copied.
type natural []uint32

// wordOf returns a number of one element at most.
func wordOf(x uint32) natural {
	return natural{x}.trimmed()
}

// fromUint returns a number of two elements at most.
func fromUint(n uint64) natural {
	return natural{uint32(n), uint32(n >> wordBits)}.trimmed()
}

// uint returns a number that is below 2^64.
func (a natural) uint() uint64 {
	var n uint64
	for i, x := range a {
		n |= uint64(x) << (wordBits * i)
	}
	return n
}

// trimmed returns a number without the zeros at its end, which alone would keep it from being valid.
func (a natural) trimmed() natural {
	n := len(a)
	for n > 0 && a[n-1] == 0 {
		n--
	}
	return a[:n]
}

// limited returns a number that an api.Nat can be. Any other one ends the whole call, however deep in it the number is found.
func (a natural) limited() natural {
	guard.Must(len(a) <= api.MaxLimbs, api.ErrLimit)
	return a
}

// belowTwo reports whether all powers of a number, from the first one on, are this number.
func (a natural) belowTwo() bool {
	return len(a) == 0 || len(a) == 1 && a[0] == 1
}

func (a natural) compare(b natural) int {
	if len(a) != len(b) {
		return cmp.Compare(len(a), len(b))
	}
	for i := len(a) - 1; i >= 0; i-- {
		if a[i] != b[i] {
			return cmp.Compare(a[i], b[i])
		}
	}
	return 0
}

func (a natural) bits() int {
	if len(a) == 0 {
		return 0
	}
	return wordBits*(len(a)-1) + bits.Len32(a[len(a)-1])
}

func (a natural) zeros() int {
	for i, x := range a {
		if x != 0 {
			return wordBits*i + bits.TrailingZeros32(x)
		}
	}
	return 0
}

func (a natural) plus(b natural) natural {
	if len(a) < len(b) {
		a, b = b, a
	}
	if len(b) == 0 {
		return a
	}
	sum := make(natural, len(a)+1)
	copy(sum, a)
	sum.increase(b)
	return sum.trimmed()
}

// minus returns a - b, for b not above a.
func (a natural) minus(b natural) natural {
	if len(b) == 0 {
		return a
	}
	rest := make(natural, len(a))
	copy(rest, a)
	rest.decrease(b)
	return rest.trimmed()
}

// increase adds b to a itself; what does not fit in the elements of a is lost.
func (a natural) increase(b natural) {
	var carry uint32
	for i, y := range b {
		a[i], carry = bits.Add32(a[i], y, carry)
	}
	for i := len(b); carry != 0 && i < len(a); i++ {
		a[i], carry = bits.Add32(a[i], 0, carry)
	}
}

// decrease subtracts b from a itself, for b not above a.
func (a natural) decrease(b natural) {
	var borrow uint32
	for i, y := range b {
		a[i], borrow = bits.Sub32(a[i], y, borrow)
	}
	for i := len(b); borrow != 0 && i < len(a); i++ {
		a[i], borrow = bits.Sub32(a[i], 0, borrow)
	}
}

func (a natural) shiftedLeft(n int) natural {
	if len(a) == 0 || n == 0 {
		return a
	}
	words, rest := n/wordBits, n%wordBits
	moved := make(natural, words+len(a)+1)
	var low uint32
	for i, x := range a {
		moved[words+i] = x<<rest | low
		low = x >> (wordBits - rest)
	}
	moved[words+len(a)] = low
	return moved.trimmed()
}

func (a natural) shiftedRight(n int) natural {
	words, rest := n/wordBits, n%wordBits
	a = a.above(words)
	if rest == 0 {
		return a
	}
	moved := make(natural, len(a))
	var high uint32
	for i := len(a) - 1; i >= 0; i-- {
		moved[i] = a[i]>>rest | high
		high = a[i] << (wordBits - rest)
	}
	return moved.trimmed()
}

// above returns the number that the elements from the index k on are.
func (a natural) above(k int) natural {
	return a[min(k, len(a)):]
}

// below returns the number that the elements ahead of the index k are.
func (a natural) below(k int) natural {
	return a[:min(k, len(a))].trimmed()
}

// joined returns the number whose elements are those of low, which has at most k, filled up to k, and then those of a.
func (a natural) joined(low natural, k int) natural {
	if len(a) == 0 {
		return low
	}
	whole := make(natural, k+len(a))
	copy(whole, low)
	copy(whole[k:], a)
	return whole
}
