package whole

import (
	"iter"

	"soroban/api"
	"soroban/nat"
)

func (a integer) power(n int) integer {
	return signed(a.Neg && n%2 == 1, found(nat.Pow(a.Abs, n)))
}

// powerRest returns the rest of the n-th power by a modulus above 0.
//
// It calculates by a multiple of the modulus that is as division by words needs it: its rests have the same rests by the modulus.
func (a integer) powerRest(n api.Nat, m integer) integer {
	_, base := a.over(m, api.DvEuclid)
	multiple := divisible(m.Abs)
	times := func(x, y words) words { return x.times(y).rest(multiple) }
	factor := wordsOf(base.Abs).filled(len(multiple))
	power := words{1}.filled(len(multiple))
	for one := range bitsFromTop(n) {
		power = times(power, power)
		if one {
			power = times(power, factor)
		}
	}
	_, rest := foundTwo(nat.Div(power.natural(), m.Abs))
	return integer{Abs: rest}
}

// bitsFromTop yields the bits of a natural number, the highest one first.
func bitsFromTop(n api.Nat) iter.Seq[bool] {
	return func(yield func(bool) bool) {
		for i := bitsOf(n) - 1; i >= 0; i-- {
			if !yield(n[i/elementBits]>>(i%elementBits)&1 == 1) {
				return
			}
		}
	}
}
