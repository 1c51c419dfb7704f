package wide

import (
	"math/bits"
	"slices"
)

// Bits returns how many binary digits a number has, which is 0 for 0.
func (w Number) Bits() int {
	if len(w) == 0 {
		return 0
	}
	return wordBits*len(w) - bits.LeadingZeros64(w[len(w)-1])
}

// Zeros returns how many of the last binary digits are 0, which is 0 for 0.
func (w Number) Zeros() int {
	for i, x := range w {
		if x != 0 {
			return wordBits*i + bits.TrailingZeros64(x)
		}
	}
	return 0
}

// Bit reports whether the binary digit that counts 2^n is 1.
func (w Number) Bit(n int) bool {
	return n/wordBits < len(w) && w[n/wordBits]>>(n%wordBits)&1 == 1
}

// Doubled returns a number that is doubled n times.
func (w Number) Doubled(n int) Number {
	if len(w) == 0 {
		return nil
	}
	return w.shiftedLeft(n).trimmed()
}

// Halved returns a number that is halved n times, without what is less than 1.
func (w Number) Halved(n int) Number {
	lost := min(n/wordBits, len(w))
	return slices.Clone(w[lost:]).shiftedRight(n % wordBits)
}

// Moved returns a number times 2^n, without what is less than 1, and whether this is something.
func (w Number) Moved(n int) (moved Number, lost bool) {
	if n >= 0 {
		return w.Doubled(n), false
	}
	return w.Halved(-n), len(w) > 0 && w.Zeros() < -n
}

// shiftedLeft returns w times 2^n as a new number with one element at its end for what leaves the last one of w, which may be 0.
func (w Number) shiftedLeft(n int) Number {
	words, rest := n/wordBits, n%wordBits
	long := make(Number, words+len(w)+1)
	for i, x := range w {
		long[words+i] |= x << rest
		long[words+i+1] = x >> (wordBits - rest)
	}
	return long
}

// shiftedRight shifts w itself, for n below 64.
func (w Number) shiftedRight(n int) Number {
	for i := range w {
		w[i] >>= n
		if i+1 < len(w) {
			w[i] |= w[i+1] << (wordBits - n)
		}
	}
	return w.trimmed()
}
