package binary

import (
	"soroban/api"
	"soroban/guard"
	"soroban/nat"
	"soroban/word"
)

// content is what a datum is, beside its format and its sign: its type tells the class.
type content interface {
	// fields returns what the fields of the datum have.
	fields() (class int, coef word.Word, exp int)
}

// number is coef times 2 to the power of exp.
type number struct {
	coef word.Word
	exp  int
}

type infinity struct{}

// quiet is a quiet NaN, signal a signaling one.
type (
	quiet  struct{ payload word.Word }
	signal struct{ payload word.Word }
)

func (n number) fields() (class int, coef word.Word, exp int)   { return api.ClFinite, n.coef, n.exp }
func (n infinity) fields() (class int, coef word.Word, exp int) { return api.ClInf, word.Word{}, 0 }
func (n quiet) fields() (class int, coef word.Word, exp int)    { return api.ClQuiet, n.payload, 0 }
func (n signal) fields() (class int, coef word.Word, exp int)   { return api.ClSignal, n.payload, 0 }

// datum returns the datum with a sign and some content.
func (x layout) datum(neg bool, c content) api.Datum {
	class, coef, exp := c.fields()
	return api.Datum{Fmt: x.format, Class: class, Neg: neg, Coef: coef.Nat(), Exp: exp}
}

// contentOf returns the content of a datum of this format; if the datum is not valid, the call ends with ErrArg.
func (x layout) contentOf(d api.Datum) content {
	size, e := nat.Bits(d.Coef)
	guard.Must(e == api.OK && size <= x.Digits, api.ErrArg)
	coef, isPayload := word.Of(d.Coef), size <= x.Digits-2
	switch {
	case d.Class == api.ClFinite:
		guard.Must(d.Exp == x.Low || size == x.Digits && d.Exp > x.Low && d.Exp <= x.High, api.ErrArg)
		return number{coef, d.Exp}
	case d.Exp == 0 && d.Class == api.ClInf && size == 0:
		return infinity{}
	case d.Exp == 0 && d.Class == api.ClQuiet && isPayload:
		return quiet{coef}
	case d.Exp == 0 && d.Class == api.ClSignal && isPayload && size > 0:
		return signal{coef}
	}
	guard.FailAt(api.ErrArg, 0)
	return nil
}

// numberWith returns the number with the value coef times 2^exp; if there is none, the call ends with ErrRange.
func (x layout) numberWith(coef api.Nat, exp int) content {
	size, zeros := guard.Found(nat.Bits(coef)), guard.Found(nat.Zeros(coef))
	if size == 0 {
		return number{exp: x.Low}
	}
	guard.Must(size-zeros <= x.Digits, api.ErrRange)
	// The exponent may be any int: the sums with it come later.
	guard.Must(exp >= x.Low-zeros && exp <= x.Emax+1-size, api.ErrRange)
	own := max(exp+size-x.Digits, x.Low)
	odd := word.Of(guard.Found(nat.Shr(coef, zeros)))
	return number{odd.Up(exp + zeros - own), own}
}

// value returns the dyad that a number with a sign is.
func (n number) value(neg bool) api.Dyad {
	if n.coef == (word.Word{}) {
		return api.Dyad{}
	}
	zeros := n.coef.Zeros()
	return api.Dyad{Man: api.Int{Neg: neg, Abs: n.coef.Down(zeros).Nat()}, Exp: n.exp + zeros}
}

// split returns the parts of the bits of a datum with a sign and some content.
func (x layout) split(neg bool, c content) parts {
	p := parts{negative: neg, field: x.lastField(), integer: true}
	switch c := c.(type) {
	case number:
		if c.coef.Size() < x.Digits {
			return parts{negative: neg, fraction: c.coef}
		}
		p.field, p.fraction = c.exp-x.Low+1, c.coef.Minus(x.unit())
	case quiet:
		p.fraction = c.payload.Plus(x.quietBit())
	case signal:
		p.fraction = c.payload
	}
	return p
}

// meaning returns the content of the datum that parts of bits mean.
func (x layout) meaning(p parts) content {
	switch {
	case p.field > 0 && !p.integer:
		return signal{word.Word{Lo: 1}}
	case p.field == x.lastField():
		return meaningOfLast(p.fraction, x.quietBit())
	case p.integer: // a number of all digits, also where a field 0 promises less
		return number{p.fraction.Plus(x.unit()), x.Low + max(p.field, 1) - 1}
	}
	return number{p.fraction, x.Low}
}

// meaningOfLast returns what a fraction means behind the last exponent field.
func meaningOfLast(fraction, quietBit word.Word) content {
	switch {
	case fraction == word.Word{}:
		return infinity{}
	case fraction.Compare(quietBit) >= 0:
		return quiet{fraction.Minus(quietBit)}
	}
	return signal{fraction}
}

// place returns the place of a datum without its sign; that of a NaN ends the call with ErrNone.
func (x layout) place(c content) word.Word {
	switch c := c.(type) {
	case number:
		return word.Scaled(c.exp-x.Low, x.fractionSize()).Plus(c.coef)
	case infinity:
		return x.placeOf(infinite)
	}
	guard.FailAt(api.ErrNone, 0)
	return word.Word{}
}

// at returns the content of the datum with a place that is not negative; if there is none, the call ends with ErrRange.
func (x layout) at(place word.Word) content {
	end := x.placeOf(infinite)
	guard.Must(place.Compare(end) <= 0, api.ErrRange)
	if place == end {
		return infinity{}
	}
	// As many data as unit counts stand with each Exp, but twice as many with the least one.
	exp := max(int(place.Down(x.fractionSize()).Lo), 1) - 1
	return number{place.Minus(word.Scaled(exp, x.fractionSize())), x.Low + exp}
}
