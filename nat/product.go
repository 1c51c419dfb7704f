package nat

import (
	"soroban/api"
	"soroban/guard"
)

// mulCut is from how many elements on Karatsuba's road is the faster one.
const mulCut = 80

// The roads to products.
const (
	bySchool = iota
	byKaratsuba
)

// multiplier is a road to products. One that cuts takes another road for numbers of less than cut elements.
type multiplier struct {
	cuts bool
	find func(a, b natural, cut int) natural
}

func multipliers() [2]multiplier {
	return [...]multiplier{
		bySchool:    {find: func(a, b natural, _ int) natural { return a.timesPairs(b) }},
		byKaratsuba: {find: natural.timesHalves, cuts: true},
	}
}

// product returns what a road finds, with the errors that all roads have.
func product(road int, a, b api.Nat, cut int) (api.Nat, api.Errno) {
	return one(func() natural {
		way := multipliers()[road]
		guard.Must(!way.cuts || goodCut(cut), api.ErrArg)
		// A product has as many elements as both numbers, or one less: there is no need to find one that is too large anyway.
		guard.Must(len(a) == 0 || len(b) == 0 || len(a)+len(b)-1 <= api.MaxLimbs, api.ErrLimit)
		return way.find(natural(a), natural(b), cut)
	}, a, b)
}

func goodCut(cut int) bool {
	return cut >= 2 && cut <= api.MaxLimbs
}

// times returns a product by the road that is the fastest one.
func (a natural) times(b natural) natural {
	return a.timesHalves(b, mulCut)
}

// timesPairs adds the products of all pairs of elements.
func (a natural) timesPairs(b natural) natural {
	if len(a) > len(b) {
		a, b = b, a
	}
	if len(a) == 0 {
		return nil
	}
	sum := make(natural, len(a)+len(b))
	for i, x := range a {
		sum[i+len(b)] = sum[i:].increaseTimes(b, x)
	}
	return sum.trimmed()
}

// increaseTimes adds b times x to as many elements of a as b has, and returns what does not fit there.
func (a natural) increaseTimes(b natural, x uint32) uint32 {
	a = a[:len(b)]
	var carry uint64
	for i, y := range b {
		t := uint64(x)*uint64(y) + uint64(a[i]) + carry
		a[i] = uint32(t)
		carry = t >> wordBits
	}
	return uint32(carry)
}

// timesHalves finds a product by three products of halves, while both numbers have cut elements.
func (a natural) timesHalves(b natural, cut int) natural {
	var times func(a, b natural) natural
	times = func(a, b natural) natural {
		if min(len(a), len(b)) < cut {
			return a.timesPairs(b)
		}
		half := (max(len(a), len(b)) + 1) / 2
		a1, a0 := a.above(half), a.below(half)
		b1, b0 := b.above(half), b.below(half)
		high, low := times(a1, b1), times(a0, b0)
		middle := times(a1.plus(a0), b1.plus(b0))
		middle.decrease(high)
		middle.decrease(low)
		sum := make(natural, len(a)+len(b))
		copy(sum, low)
		copy(sum[min(2*half, len(sum)):], high)
		sum[half:].increase(middle.trimmed())
		return sum.trimmed()
	}
	return times(a, b)
}
