package ratio

import (
	"soroban/api"
	"soroban/guard"
	"soroban/nat"
)

// bound is an end of an interval, which is open if the end is no number of it.
type bound struct {
	at   number
	open bool
}

func (b bound) opposite() bound {
	return bound{b.at.opposite(), b.open}
}

// simplest returns the simplest number of an interval that has numbers.
func simplest(lo, hi bound) number {
	fromZero := lo.at.isZero() && !lo.open || lo.at.Num.Neg
	toZero := hi.at.isZero() && !hi.open || !hi.at.isZero() && !hi.at.Num.Neg
	switch {
	case fromZero && toZero:
		return fromInt(api.Int{})
	case fromZero:
		return simplestPositive(hi.opposite(), lo.opposite()).opposite()
	}
	return simplestPositive(lo, hi)
}

// simplestPositive returns the simplest number of an interval that begins at 0 or above it and does not contain 0. Its terms are those that all numbers of the interval have at their beginning, and the least one more with which it is in the interval.
func simplestPositive(lo, hi bound) number {
	c := emptyChain()
	var descend func() number // it keeps what it knows outside of itself: it may call itself very often
	descend = func() number {
		floor, rest := guard.FoundTwo(nat.Div(lo.at.Num.Abs, lo.at.Den))
		least := floor
		if len(rest) > 0 || lo.open {
			least = sum(floor, api.Nat{1})
		}
		if hi.isAbove(least) {
			return c.with(api.Int{Abs: least}).now
		}
		c = c.with(api.Int{Abs: floor})
		lo, hi = hi.behind(floor), lo.behind(floor)
		return descend()
	}
	return descend()
}

// isAbove reports whether an integer lies in an interval that ends here and begins below the integer, or at it. (The end 1/0 is above all integers.)
func (b bound) isAbove(n api.Nat) bool {
	if len(b.at.Den) == 0 {
		return true
	}
	floor, rest := guard.FoundTwo(nat.Div(b.at.Num.Abs, b.at.Den))
	order := compareNats(n, floor)
	return order < 0 || order == 0 && (len(rest) > 0 || !b.open)
}

// behind returns the reciprocal of what is left if an integer is taken from an end: 1/0, if nothing is left.
func (b bound) behind(n api.Nat) bound {
	rest := difference(b.at.Num.Abs, product(n, b.at.Den))
	return bound{number{api.Int{Abs: b.at.Den}, rest}, b.open}
}
