package round

import (
	"soroban/api"
	"soroban/dyad"
	"soroban/guard"
	"soroban/ratio"
	"soroban/wide"
)

// number is a number with a sign, the magnitude of which is over / under times 2 to the power of exp, or, if sticky is 1 or -1, greater or less than that by as little as one likes.
type number struct {
	negative    bool
	over, under wide.Number
	exp         int
	sticky      int
}

// numberOf returns a rational number; 0 gets a sign. If the number is not valid, the call ends with ErrArg.
func numberOf(x api.Rat, neg bool) number {
	guard.Must(ratio.Valid(x), api.ErrArg)
	n := number{negative: x.Num.Neg, over: wide.Of(x.Num.Abs), under: wide.Of(x.Den)}
	return n.signed(neg)
}

// beside returns a dyad, or a number beside it; 0 gets a sign. If the dyad or sticky is not valid, the call ends with ErrArg.
func beside(x api.Dyad, sticky int, neg bool) number {
	guard.Must(dyad.Valid(x), api.ErrArg)
	n := number{x.Man.Neg, wide.Of(x.Man.Abs), wide.Number{1}, x.Exp, sticky}
	guard.Must(sticky == 0 || (sticky == 1 || sticky == -1) && !n.isZero(), api.ErrArg)
	return n.signed(neg)
}

// signed returns a number; 0 gets a sign.
func (x number) signed(neg bool) number {
	if x.isZero() {
		x.negative = neg
	}
	return x
}

func (x number) isZero() bool {
	return len(x.over) == 0
}

// integer returns the integer part of the magnitude, and whether there is more.
func (x number) integer() (whole wide.Number, more bool) {
	over, lost := x.over.Moved(x.exp)
	whole, rest := over.Over(x.under)
	switch {
	case lost || len(rest) > 0: // which what is beside the number does not change
		return whole, true
	case x.sticky < 0:
		return whole.Minus(wide.Number{1}), true
	}
	return whole, x.sticky > 0
}
