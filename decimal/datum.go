package decimal

import (
	"iter"

	"soroban/api"
	"soroban/guard"
	"soroban/nat"
	"soroban/ratio"
	"soroban/word"
)

// format is a decimal format: how many digits its data have, their least and greatest exponent, and how many bits the combination has behind the first five of them, and how many are trailing.
type format struct {
	number   int
	digits   int
	least    int
	greatest int
	behind   int
	trailing int
}

// formats are the decimal formats.
var formats = [...]format{
	{number: api.FmDec32, digits: 7, least: -101, greatest: 90, behind: 6, trailing: 20},
	{number: api.FmDec64, digits: 16, least: -398, greatest: 369, behind: 8, trailing: 50},
	{number: api.FmDec128, digits: 34, least: -6176, greatest: 6111, behind: 12, trailing: 110},
}

// formatOf returns a format; if there is no such one, the call ends with ErrArg.
func formatOf(fm int) format {
	for _, x := range formats {
		if x.number == fm {
			return x
		}
	}
	guard.FailAt(api.ErrArg, 0)
	return format{}
}

// datum is a datum of a format.
type datum struct {
	format
	class    int
	negative bool
	coef     word.Word
	exp      int
}

// datumOf returns a datum; if it is not valid, the call ends with ErrArg.
func datumOf(d api.Datum) datum {
	x := formatOf(d.Fmt)
	size, e := nat.Bits(d.Coef)
	guard.Must(e == api.OK && size <= word.Size, api.ErrArg)
	own := datum{x, d.Class, d.Neg, word.Of(d.Coef), d.Exp}
	guard.Must(own.isValid(), api.ErrArg)
	return own
}

// finiteOf returns a finite datum; if it is valid, but not finite, the call ends with ErrType.
func finiteOf(d api.Datum) datum {
	own := datumOf(d)
	guard.Must(own.class == api.ClFinite, api.ErrType)
	return own
}

func (d datum) isValid() bool {
	switch d.class {
	case api.ClFinite:
		return hasDigits(d.coef, d.digits) && d.exp >= d.least && d.exp <= d.greatest
	case api.ClInf:
		return d.isZero() && d.exp == 0
	case api.ClQuiet, api.ClSignal:
		return hasDigits(d.coef, d.digits-1) && d.exp == 0
	}
	return false
}

// hasDigits reports whether a number has at most n decimal digits.
func hasDigits(w word.Word, n int) bool {
	return w.Compare(word.TenTo(n)) < 0
}

func (d datum) isZero() bool {
	return d.coef == word.Word{}
}

// kept returns a datum as it is given out.
func (d datum) kept() api.Datum {
	return api.Datum{Fmt: d.number, Class: d.class, Neg: d.negative, Coef: d.coef.Nat(), Exp: d.exp}
}

// next returns the member of a finite datum's cohort whose exponent is nearer to exp by 1, and whether there is one.
func (d datum) next(exp int) (datum, bool) {
	if exp > d.exp {
		quotient, rest := d.coef.Over(10)
		d.coef, d.exp = quotient, d.exp+1
		return d, rest == 0 && d.exp <= d.greatest
	}
	d.coef, d.exp = d.coef.Times(10), d.exp-1
	return d, hasDigits(d.coef, d.digits) && d.exp >= d.least
}

// members yields the members of a finite datum's cohort from the datum itself on, as near to exp as there are any.
func (d datum) members(exp int) iter.Seq[datum] {
	return func(yield func(datum) bool) {
		for member, isOne := d, true; isOne && yield(member) && member.exp != exp; {
			member, isOne = member.next(exp)
		}
	}
}

// toward returns the member of a finite datum's cohort whose exponent is nearest to exp.
func (d datum) toward(exp int) datum {
	if d.isZero() { // it can have any exponent, so there is no need to go through thousands of members
		d.exp = min(max(exp, d.least), d.greatest)
		return d
	}
	nearest := d
	for member := range d.members(exp) {
		nearest = member
	}
	return nearest
}

// cohort returns the least and the greatest exponent of a finite datum's cohort.
func (d datum) cohort() (least, greatest int) {
	return d.toward(d.least).exp, d.toward(d.greatest).exp
}

// normal returns the member of the cohort that stands for all of them.
func (d datum) normal() datum {
	switch {
	case d.class != api.ClFinite:
		return d
	case d.isZero():
		return d.toward(0)
	}
	return d.toward(d.greatest)
}

// quantum returns 10 to the power of the exponent.
func (d datum) quantum() api.Rat {
	ten := guard.Found(ratio.New(api.Int{Abs: api.Nat{10}}, api.Int{Abs: api.Nat{1}}))
	return guard.Found(ratio.Pow(ten, d.exp))
}

// signedCoef returns the coefficient with the sign, which 0 does not have.
func (d datum) signedCoef() api.Rat {
	coef := api.Int{Neg: d.negative && !d.isZero(), Abs: d.coef.Nat()}
	return guard.Found(ratio.New(coef, api.Int{Abs: api.Nat{1}}))
}
