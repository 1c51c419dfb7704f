package wide

import (
	"math"
	"math/bits"
)

// Over returns the quotient and the rest by a number other than 0.
func (w Number) Over(v Number) (quotient, rest Number) {
	switch n := len(v); {
	case len(w) < n:
		return nil, w
	case n == 1:
		return w.overWord(v[0])
	default:
		shift := bits.LeadingZeros64(v[n-1])
		divisor := v.shiftedLeft(shift)[:n]
		rest = w.shiftedLeft(shift)
		quotient = make(Number, len(w)-n+1)
		for i := len(w) - n; i >= 0; i-- {
			quotient[i] = rest[i : i+n+1].takeMost(divisor)
		}
		return quotient.trimmed(), rest[:n].shiftedRight(shift)
	}
}

func (w Number) overWord(v uint64) (quotient, rest Number) {
	quotient = make(Number, len(w))
	var r uint64
	for i := len(w) - 1; i >= 0; i-- {
		quotient[i], r = bits.Div64(r, w[i], v)
	}
	return quotient.trimmed(), Number{r}.trimmed()
}

// addTimes adds v times x to as many elements of w itself as v has, and returns what does not fit there.
func (w Number) addTimes(v Number, x uint64) uint64 {
	w = w[:len(v)]
	var over, carry uint64
	for i, y := range v {
		high, low := bits.Mul64(x, y)
		low, carry = bits.Add64(low, w[i], 0)
		high, _ = bits.Add64(high, 0, carry)
		w[i], carry = bits.Add64(low, over, 0)
		over, _ = bits.Add64(high, 0, carry)
	}
	return over
}

// takeTimes subtracts v times x from as many elements of w itself as v has, and returns what they lack.
func (w Number) takeTimes(v Number, x uint64) uint64 {
	w = w[:len(v)]
	var lack, borrow uint64
	for i, y := range v {
		high, low := bits.Mul64(x, y)
		low, borrow = bits.Add64(low, lack, 0)
		high, _ = bits.Add64(high, 0, borrow)
		w[i], borrow = bits.Sub64(w[i], low, 0)
		lack, _ = bits.Add64(high, 0, borrow)
	}
	return lack
}

// takeMost subtracts m from w itself as often as possible, and returns how often that is: m has two elements at least, the first bit of which is 1, and w one element more; w is below 2^64 times m.
func (w Number) takeMost(m Number) uint64 {
	n := len(m)
	times := w.estimate(m)
	lack := w.takeTimes(m, times)
	w[n] -= lack
	for w[n] != 0 { // the estimate was too large, and w has become negative
		times--
		over := w.addTimes(m, 1)
		w[n] += over
	}
	return times
}

// estimate returns how often m fits in w, by their first elements, or a little more; w and m are as for takeMost.
func (w Number) estimate(m Number) uint64 {
	n := len(m)
	if w[n] >= m[n-1] {
		return math.MaxUint64
	}
	times, rest := bits.Div64(w[n], w[n-1], m[n-1])
	for {
		high, low := bits.Mul64(times, m[n-2])
		if high < rest || high == rest && low <= w[n-2] {
			return times
		}
		times--
		rest += m[n-1]
		if rest < m[n-1] {
			return times
		}
	}
}
