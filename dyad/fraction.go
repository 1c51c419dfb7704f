package dyad

import (
	"cmp"

	"soroban/api"
	"soroban/guard"
	"soroban/wide"
)

// fraction is a dyad without its limits, and may be even: man times 2 to the power of exp. What a method returns may share memory with the fractions that it was given: nothing changes their elements, and what leaves the package is new.
type fraction struct {
	man wide.Integer
	exp int
}

func fractionOf(man api.Int, exp int) fraction {
	return fraction{wide.IntegerOf(man), exp}
}

// of returns the fraction that a dyad is.
func of(d api.Dyad) fraction {
	return fractionOf(d.Man, d.Exp)
}

// kept returns the dyad of a number; if there is none, the call ends with ErrLimit.
func (x fraction) kept() api.Dyad {
	if x.isZero() {
		return api.Dyad{}
	}
	zeros := x.man.Magnitude.Zeros()
	// The exponent may be any int: the sum with the zeros comes later.
	guard.Must(x.exp >= -api.MaxExpo-zeros && x.exp <= api.MaxExpo-zeros, api.ErrLimit)
	odd := wide.Integer{Negative: x.man.Negative, Magnitude: x.man.Magnitude.Halved(zeros)}
	return api.Dyad{Man: odd.Int(), Exp: x.exp + zeros}
}

func (x fraction) isZero() bool {
	return x.man.Sign() == 0
}

// top returns the exponent of the greatest power of 2 that is at most the magnitude, for a number other than 0.
func (x fraction) top() int {
	return x.man.Magnitude.Bits() - 1 + x.exp
}

func (x fraction) opposite() fraction {
	return fraction{x.man.Opposite(), x.exp}
}

// aligned returns an exponent that two numbers can have, and what either of them has as its man with this exponent.
func aligned(x, y fraction) (exp int, man func(fraction) wide.Integer) {
	exp = min(x.exp, y.exp)
	return exp, func(z fraction) wide.Integer { return z.man.Doubled(z.exp - exp) }
}

// compare returns -1, 0 or 1. Numbers with far exponents are not aligned: most of them differ in their signs or their tops.
func (x fraction) compare(y fraction) int {
	sign := x.man.Sign()
	if order := cmp.Compare(sign, y.man.Sign()); order != 0 || sign == 0 {
		return order
	}
	if order := cmp.Compare(x.top(), y.top()); order != 0 {
		return sign * order
	}
	_, man := aligned(x, y)
	return man(x).Compare(man(y))
}

// compareRat compares a fraction with a rational number, both times its denominator.
func (x fraction) compareRat(r api.Rat) int {
	den := fractionOf(api.Int{Abs: r.Den}, 0)
	return x.times(den).compare(fractionOf(r.Num, 0))
}

func (x fraction) plus(y fraction) fraction {
	switch {
	case x.isZero():
		return y
	case y.isZero():
		return x
	}
	exp, man := aligned(x, y)
	return fraction{man(x).Plus(man(y)), exp}
}

func (x fraction) times(y fraction) fraction {
	return fraction{x.man.Times(y.man), x.exp + y.exp}
}

// shifted returns a number times 2 to the power of n, which may be any int: an exponent that wraps around is too far from those of dyads, too.
func (x fraction) shifted(n int) fraction {
	return fraction{x.man, x.exp + n}
}
