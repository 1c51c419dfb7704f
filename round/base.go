package round

import (
	"soroban/api"
	"soroban/decimal"
	"soroban/guard"
	"soroban/wide"
)

// The bases of formats.
const (
	binaryBase  = 2
	decimalBase = 10
)

// base is how a base counts.
type base interface {
	// power returns the base to the power of n.
	power(n int) wide.Number
	// times returns a number times the base to the power of n.
	times(x number, n int) number
	// size returns the least n for which a number other than 0 is below the base to the power of n, or a little less: by 2 at most.
	size(x number) int
	// preferred returns, of the data with the value of a finite datum, the one whose exponent is nearest to exp.
	preferred(d api.Datum, exp int) api.Datum
}

// baseOf returns how a base counts.
func baseOf(n int) base {
	if n == binaryBase {
		return two{}
	}
	return ten{}
}

type two struct{}

func (two) power(n int) wide.Number {
	return wide.Number{1}.Doubled(n)
}

func (two) times(x number, n int) number {
	x.exp += n
	return x
}

func (two) size(x number) int {
	return x.over.Bits() - x.under.Bits() + x.exp
}

func (two) preferred(d api.Datum, exp int) api.Datum {
	return d
}

// ten leaves to two what a power of 10 has of one of 2.
type ten struct{ two }

// powerOfFive returns what a power of 10 has beside one of 2.
func powerOfFive(n int) wide.Number {
	return wide.Number{5}.Power(n)
}

func (b ten) power(n int) wide.Number {
	return powerOfFive(n).Times(b.two.power(n))
}

func (b ten) times(x number, n int) number {
	x = b.two.times(x, n)
	if n < 0 {
		x.under = x.under.Times(powerOfFive(-n))
	} else {
		x.over = x.over.Times(powerOfFive(n))
	}
	return x
}

// size takes a fraction for the logarithm of 2. The least n is above that of 2 to the power of two.size - 1, which the number is not below; what the fraction, and the division toward zero, add to it is less than 1.
func (b ten) size(x number) int {
	return (b.two.size(x) - 1) * 30103 / 100000
}

func (ten) preferred(d api.Datum, exp int) api.Datum {
	least, greatest := guard.FoundTwo(decimal.Cohort(d))
	return guard.Found(decimal.Member(d, min(max(exp, least), greatest)))
}
