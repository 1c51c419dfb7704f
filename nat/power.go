package nat

import (
	"math/bits"

	"soroban/api"
	"soroban/guard"
)

// limitedPower returns the n-th power of a; one that is too large ends the call before it is computed, since n may be any number.
func (a natural) limitedPower(n int) natural {
	switch {
	case n == 0:
		return wordOf(1)
	case a.belowTwo():
		return a
	}
	// The power has more bits than n times those that a has behind the first one.
	guard.Must(n <= (wordBits*api.MaxLimbs-1)/(a.bits()-1), api.ErrLimit)
	return a.power(n)
}

// power returns the n-th power of a, for n from 1 on.
func (a natural) power(n int) natural {
	result := a
	for i := bits.Len(uint(n)) - 2; i >= 0; i-- {
		result = result.times(result)
		if n>>i&1 == 1 {
			result = result.times(a)
		}
	}
	return result
}

// rootAndRest returns the n-th root of a, and a less its power.
func (a natural) rootAndRest(n int) (root, rest natural) {
	switch {
	case n == 1 || a.belowTwo():
		return a, nil
	case n >= a.bits(): // the power of 2 is above a
		return wordOf(1), a.minus(wordOf(1))
	}
	root = a.root(n)
	return root, a.minus(root.power(n))
}

// root returns the n-th root of a, for n from 2 on: first that of the first half of its digits, then all of it by Newton's rule, which doubles the digits.
func (a natural) root(n int) natural {
	lost := bits.Len(uint(n)) // so many digits of those that the rule doubles can be wrong
	var find func(a natural) natural
	find = func(a natural) natural {
		size := (a.bits() + n - 1) / n
		if size < lost+8 {
			return a.rootByBits(n, size)
		}
		half := (size - lost) / 2
		first := find(a.shiftedRight(n * half))
		return a.rootFrom(n, first.plus(wordOf(1)).shiftedLeft(half))
	}
	return find(a)
}

// rootByBits tries each bit of a root of so many bits.
func (a natural) rootByBits(n, size int) natural {
	var root natural
	for i := size - 1; i >= 0; i-- {
		next := root.plus(wordOf(1).shiftedLeft(i))
		if next.power(n).compare(a) <= 0 {
			root = next
		}
	}
	return root
}

// rootFrom returns a root by Newton's rule from a number above it: the numbers fall until they are not above the root.
func (a natural) rootFrom(n int, x natural) natural {
	others := uint32(n - 1) // n is less than the number of bits of a
	for {
		q, _ := a.over(x.power(n - 1))
		next, _ := q.plus(x.times(wordOf(others))).overWord(uint32(n))
		if next.compare(x) >= 0 {
			return x
		}
		x = next
	}
}
