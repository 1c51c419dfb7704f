package wide

import (
	"cmp"

	"soroban/api"
)

// Integer is an integer of any length; Negative has no meaning for 0.
type Integer struct {
	Negative  bool
	Magnitude Number
}

// IntegerOf returns an api.Int as an Integer.
func IntegerOf(a api.Int) Integer {
	return Integer{a.Neg, Of(a.Abs)}
}

// Int returns an integer as an api.Int; one that is too large for it ends the call with ErrLimit.
func (x Integer) Int() api.Int {
	return api.Int{Neg: x.Sign() < 0, Abs: x.Magnitude.Nat()}
}

// Sign returns -1, 0 or 1.
func (x Integer) Sign() int {
	switch {
	case len(x.Magnitude) == 0:
		return 0
	case x.Negative:
		return -1
	}
	return 1
}

// Compare returns -1, 0 or 1.
func (x Integer) Compare(y Integer) int {
	order := cmp.Compare(x.Sign(), y.Sign())
	if order != 0 {
		return order
	}
	return x.Sign() * x.Magnitude.Compare(y.Magnitude)
}

// Opposite returns -x.
func (x Integer) Opposite() Integer {
	return Integer{!x.Negative, x.Magnitude}
}

// Plus returns a sum.
func (x Integer) Plus(y Integer) Integer {
	switch {
	case x.Negative == y.Negative:
		return Integer{x.Negative, x.Magnitude.Plus(y.Magnitude)}
	case x.Magnitude.Compare(y.Magnitude) < 0:
		return Integer{y.Negative, y.Magnitude.Minus(x.Magnitude)}
	}
	return Integer{x.Negative, x.Magnitude.Minus(y.Magnitude)}
}

// Times returns a product.
func (x Integer) Times(y Integer) Integer {
	return Integer{x.Negative != y.Negative, x.Magnitude.Times(y.Magnitude)}
}

// Doubled returns an integer that is doubled n times.
func (x Integer) Doubled(n int) Integer {
	return Integer{x.Negative, x.Magnitude.Doubled(n)}
}
