package round

import (
	"soroban/api"
	"soroban/wide"
)

// scaled is the magnitude of a number as a format has it: a coefficient times the base to the power of exp, whether it is less than the number was, and what is lost then.
type scaled struct {
	format
	coef    wide.Number
	exp     int
	inexact bool
	lost    loss
}

// spare is how many digits behind those of a format are looked at, at least: the first one of them tells what is more than a half.
const spare = 1

// cut returns the magnitude of a number without the digits that a format does not have.
func (x format) cut(n number) scaled {
	if n.isZero() {
		return scaled{format: x, exp: x.least}
	}
	b := baseOf(x.base)
	exp := max(b.size(n)-x.digits, x.least)
	whole, more := b.times(n, spare-exp).integer()
	unit, end := x.power(spare), x.power(x.digits+spare)
	for whole.Compare(end) >= 0 {
		unit, end = unit.Times(x.power(1)), end.Times(x.power(1))
		exp++
	}
	coef, rest := whole.Over(unit)
	half := rest.Doubled(1).Compare(unit)
	if half == 0 && more {
		half = 1
	}
	return scaled{x, coef, exp, more || len(rest) > 0, loss{half, coef.Bit(0)}}
}

// rounded returns what becomes of a magnitude in a direction, with the sign of its number.
func (s scaled) rounded(negative bool, away direction) scaled {
	coef, exp := s.coef, s.exp
	if s.inexact && away(negative, s.lost) {
		coef = coef.Plus(wide.Number{1})
	}
	if coef.Compare(s.power(s.digits)) == 0 {
		coef, exp = s.power(s.digits-1), exp+1
	}
	return scaled{format: s.format, coef: coef, exp: exp}
}

// flags returns the flags that a magnitude raises for what it loses, if it is not too large.
func (s scaled) flags() int {
	switch {
	case !s.inexact:
		return 0
	case s.coef.Compare(s.power(s.digits-1)) < 0: // it is below the least normal number: only there, digits are missing
		return api.FlInexact + api.FlUnderflow
	}
	return api.FlInexact
}
