package whole

import (
	"math"
	"math/bits"

	"soroban/api"
	"soroban/nat"
)

// How many bits the elements of natural numbers and of words have.
const (
	elementBits = 32
	wordBits    = 64
)

// words is a natural number by elements of 64 bits, the least significant one first, of any length and with any zeros at the end: a product by a large modulus is too long for package nat before its rest is taken.
type words []uint64

func wordsOf(a api.Nat) words {
	w := make(words, (len(a)+1)/2)
	for i, x := range a {
		w[i/2] |= uint64(x) << (i % 2 * elementBits)
	}
	return w
}

// natural returns the natural number that words are.
func (w words) natural() api.Nat {
	a := make(api.Nat, 2*len(w))
	for i, x := range w {
		a[2*i], a[2*i+1] = uint32(x), uint32(x>>elementBits)
	}
	return trimmed(a)
}

// filled returns the same number with n elements.
func (w words) filled(n int) words {
	long := make(words, n)
	copy(long, w)
	return long
}

// divisible returns the least product of a natural number above 0 and a power of 2 by which words can be divided: it has two elements at least, and its first bit is set.
func divisible(m api.Nat) words {
	size := bitsOf(m)
	full := max(2*wordBits, (size+wordBits-1)/wordBits*wordBits)
	return wordsOf(found(nat.Shl(m, full-size)))
}

func (w words) times(v words) words {
	product := make(words, len(w)+len(v))
	for i, x := range w {
		product[i+len(v)] = product[i:].addTimes(v, x)
	}
	return product
}

// addTimes adds v times x to as many elements of w itself as v has, and returns what does not fit there.
func (w words) addTimes(v words, x uint64) uint64 {
	w = w[:len(v)]
	var over, carry uint64
	for i, y := range v {
		high, low := bits.Mul64(x, y)
		low, carry = bits.Add64(low, w[i], 0)
		high, _ = bits.Add64(high, 0, carry)
		w[i], carry = bits.Add64(low, over, 0)
		over, _ = bits.Add64(high, 0, carry)
	}
	return over
}

// takeTimes subtracts v times x from as many elements of w itself as v has, and returns what they lack.
func (w words) takeTimes(v words, x uint64) uint64 {
	w = w[:len(v)]
	var lack, borrow uint64
	for i, y := range v {
		high, low := bits.Mul64(x, y)
		low, borrow = bits.Add64(low, lack, 0)
		high, _ = bits.Add64(high, 0, borrow)
		w[i], borrow = bits.Sub64(w[i], low, 0)
		lack, _ = bits.Add64(high, 0, borrow)
	}
	return lack
}

// rest returns the rest by a divisible number m of a number that is less than m times as many elements more as it has; it overwrites w.
func (w words) rest(m words) words {
	n := len(m)
	for i := len(w) - n - 1; i >= 0; i-- {
		w[i : i+n+1].takeMost(m)
	}
	return w[:n]
}

// takeMost subtracts m from w itself, which has one element more and is below 2^64 times m, as often as possible.
func (w words) takeMost(m words) {
	n := len(m)
	lack := w.takeTimes(m, w.estimate(m))
	w[n] -= lack
	for w[n] != 0 { // the estimate was too large, and w has become negative
		over := w.addTimes(m, 1)
		w[n] += over
	}
}

// estimate returns how often m fits in w, by their first elements, or a little more; w and m are as for takeMost.
func (w words) estimate(m words) uint64 {
	n := len(m)
	if w[n] >= m[n-1] {
		return math.MaxUint64
	}
	times, rest := bits.Div64(w[n], w[n-1], m[n-1])
	for {
		high, low := bits.Mul64(times, m[n-2])
		if high < rest || high == rest && low <= w[n-2] {
			return times
		}
		times--
		rest += m[n-1]
		if rest < m[n-1] {
			return times
		}
	}
}
