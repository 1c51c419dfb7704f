package whole

import (
	"soroban/api"
	"soroban/guard"
	"soroban/nat"
)

// truncated is a division that is not even, of an integer a by an integer b: the signs, and what the magnitudes give.
type truncated struct {
	aNeg, bNeg     bool
	quotient, rest api.Nat
	divisor        api.Nat
}

// division is a way to round: whether the quotient that lies farther from 0 is the right one.
type division struct {
	farther func(t truncated) bool
}

func divisions() [5]division {
	return [...]division{
		api.DvZero:   {func(truncated) bool { return false }},
		api.DvDown:   {func(t truncated) bool { return t.aNeg != t.bNeg }},
		api.DvEuclid: {func(t truncated) bool { return t.aNeg }},
		api.DvNear:   {truncated.overHalf},
	}
}

// overHalf reports whether the rest is more than half of the divisor, or half of it behind an odd quotient. (Twice the rest may be too large for package nat.)
func (t truncated) overHalf() bool {
	switch compareNats(t.rest, guard.Found(nat.Sub(t.divisor, t.rest))) {
	case 1:
		return true
	case 0:
		return len(t.quotient) > 0 && t.quotient[0]%2 == 1
	}
	return false
}

// over returns a quotient that is rounded in a way, and its rest, for a divisor other than 0.
func (a integer) over(b integer, how int) (q, r integer) {
	quotient, rest := guard.FoundTwo(nat.Div(a.Abs, b.Abs))
	negative := a.Neg != b.Neg
	t := truncated{a.Neg, b.Neg, quotient, rest, b.Abs}
	if len(rest) == 0 || !divisions()[how].farther(t) {
		return signed(negative, quotient), signed(a.Neg, rest)
	}
	quotient = guard.Found(nat.Add(quotient, api.Nat{1}))
	return signed(negative, quotient), signed(!a.Neg, guard.Found(nat.Sub(b.Abs, rest)))
}
