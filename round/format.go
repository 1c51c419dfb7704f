package round

import (
	"soroban/api"
	"soroban/guard"
	"soroban/wide"
)

// format is what is known of a format: its number and its base, how many digits its data have, and their least and greatest exponent.
type format struct {
	number   int
	base     int
	digits   int
	least    int
	greatest int
}

// formats are the formats, by their numbers.
var formats = [...]format{
	api.FmHalf:     {number: api.FmHalf, base: binaryBase, digits: 11, least: -24, greatest: 5},
	api.FmSingle:   {number: api.FmSingle, base: binaryBase, digits: 24, least: -149, greatest: 104},
	api.FmDouble:   {number: api.FmDouble, base: binaryBase, digits: 53, least: -1074, greatest: 971},
	api.FmExtended: {number: api.FmExtended, base: binaryBase, digits: 64, least: -16445, greatest: 16320},
	api.FmQuad:     {number: api.FmQuad, base: binaryBase, digits: 113, least: -16494, greatest: 16271},
	api.FmDec32:    {number: api.FmDec32, base: decimalBase, digits: 7, least: -101, greatest: 90},
	api.FmDec64:    {number: api.FmDec64, base: decimalBase, digits: 16, least: -398, greatest: 369},
	api.FmDec128:   {number: api.FmDec128, base: decimalBase, digits: 34, least: -6176, greatest: 6111},
}

// formatOf returns a format; if there is no such one, the call ends with ErrArg.
func formatOf(f int) format {
	guard.Must(f >= api.FmHalf && f <= api.FmDec128, api.ErrArg)
	return formats[f]
}

// boundless returns a decimal format with so many digits, whose exponents no rational number exceeds.
func boundless(digits int) format {
	return format{base: decimalBase, digits: digits, least: -api.MaxExpo, greatest: api.MaxExpo}
}

// power returns the base of a format to the power of n.
func (x format) power(n int) wide.Number {
	return baseOf(x.base).power(n)
}

// datum returns the datum with a sign and a value.
func (x format) datum(negative bool, coef wide.Number, exp int) api.Datum {
	return api.Datum{Fmt: x.number, Class: api.ClFinite, Neg: negative, Coef: coef.Nat(), Exp: exp}
}

// overflow returns what becomes of a number that is too large: what a direction makes of it is as if it had lost nearly a whole unit.
func (x format) overflow(negative bool, away direction) api.Result {
	r := api.Result{Flags: api.FlOverflow + api.FlInexact}
	if away(negative, loss{half: 1}) {
		r.D = api.Datum{Fmt: x.number, Class: api.ClInf, Neg: negative}
	} else {
		r.D = x.datum(negative, x.power(x.digits).Minus(wide.Number{1}), x.greatest)
	}
	return r
}

// result returns what becomes of a number in a direction; if this is exact, its exponent is as near as possible to a preferred one.
func (x format) result(n number, away direction, prefer int) api.Result {
	cut := x.cut(n)
	near := cut.rounded(n.negative, away)
	if near.exp > x.greatest {
		return x.overflow(n.negative, away)
	}
	r := api.Result{D: x.datum(n.negative, near.coef, near.exp), Flags: cut.flags()}
	if !cut.inexact {
		r.D = baseOf(x.base).preferred(r.D, prefer)
	}
	return r
}
