package ratio

import (
	"soroban/api"
	"soroban/guard"
	"soroban/nat"
	"soroban/whole"
)

// directions returns how a number is rounded to an integer in each direction.
func directions() map[int]func(a number) api.Int {
	return map[int]func(a number) api.Int{
		api.RdEven: func(a number) api.Int { return a.rounded(api.DvNear) },
		api.RdAway: number.nearestAway,
		api.RdZero: func(a number) api.Int { return a.rounded(api.DvZero) },
		api.RdUp:   number.ceiling,
		api.RdDown: number.floor,
	}
}

// rounded returns the quotient of a number's terms, rounded in a way of package whole.
func (a number) rounded(how int) api.Int {
	q, _ := guard.FoundTwo(whole.Div(a.Num, api.Int{Abs: a.Den}, how))
	return q
}

func (a number) floor() api.Int {
	return a.rounded(api.DvDown)
}

func (a number) ceiling() api.Int {
	return guard.Found(whole.Neg(a.opposite().floor()))
}

// nearestAway returns the nearest integer; of two that are equally near the one away from 0.
func (a number) nearestAway() api.Int {
	q, rest := guard.FoundTwo(nat.Div(a.Num.Abs, a.Den))
	if compareNats(rest, difference(a.Den, rest)) >= 0 { // twice the rest may be too large for package nat
		q = sum(q, api.Nat{1})
	}
	return signed(a.Num.Neg, q)
}
