package whole

import (
	"iter"

	"soroban/api"
	"soroban/guard"
	"soroban/nat"
	"soroban/wide"
)

func (a integer) power(n int) integer {
	return signed(a.Neg && n%2 == 1, guard.Found(nat.Pow(a.Abs, n)))
}

// powerRest returns the rest of the n-th power by a modulus above 0. The products on the way are too long for package nat.
func (a integer) powerRest(n api.Nat, m integer) integer {
	_, base := a.over(m, api.DvEuclid)
	factor, modulus := wide.Of(base.Abs), wide.Of(m.Abs)
	times := func(x, y wide.Number) wide.Number {
		_, rest := x.Times(y).Over(modulus)
		return rest
	}
	power := wide.Of(api.Nat{1})
	for one := range bitsFromTop(n) {
		power = times(power, power)
		if one {
			power = times(power, factor)
		}
	}
	_, rest := power.Over(modulus) // of the power 1 and the modulus 1
	return integer{Abs: rest.Nat()}
}

// bitsFromTop yields the bits of a natural number, the highest one first.
func bitsFromTop(n api.Nat) iter.Seq[bool] {
	return func(yield func(bool) bool) {
		for i := bitsOf(n) - 1; i >= 0; i-- {
			if !yield(n[i/elementBits]>>(i%elementBits)&1 == 1) {
				return
			}
		}
	}
}
