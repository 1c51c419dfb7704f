package binary

import (
	"iter"
	"math/bits"

	"soroban/api"
	"soroban/guard"
	"soroban/word"
)

// formats are the binary formats, by their numbers.
var formats = [...]api.BinFormat{
	api.FmHalf:     {Digits: 11, Emax: 15, Low: -24, High: 5, Width: 16},
	api.FmSingle:   {Digits: 24, Emax: 127, Low: -149, High: 104, Width: 32},
	api.FmDouble:   {Digits: 53, Emax: 1023, Low: -1074, High: 971, Width: 64},
	api.FmExtended: {Digits: 64, Emax: 16383, Low: -16445, High: 16320, Width: 80},
	api.FmQuad:     {Digits: 113, Emax: 16383, Low: -16494, High: 16271, Width: 128},
}

// layout is a binary format with its number: what its data are, and where the parts of their bits lie.
type layout struct {
	api.BinFormat
	format int
}

// layoutOf returns the layout of a format; if there is no such one, the call ends with ErrArg.
func layoutOf(f int) layout {
	guard.Must(f >= api.FmHalf && f <= api.FmQuad, api.ErrArg)
	return layout{formats[f], f}
}

// parts is what the bits of a datum consist of. The integer bit is 1 for a normal datum also where the format does not show it.
type parts struct {
	negative bool
	field    int
	integer  bool
	fraction word.Word
}

// fractionSize returns how many bits the fraction has.
func (x layout) fractionSize() int {
	return x.Digits - 1
}

// lastField returns the exponent field of all bits 1: that behind the one of the greatest Exp.
func (x layout) lastField() int {
	return x.High - x.Low + 2
}

// fieldAt returns how many bits stand behind the exponent field.
func (x layout) fieldAt() int {
	return x.Width - 1 - bits.Len(uint(x.lastField()))
}

// showsInteger reports whether there is an integer bit between the exponent field and the fraction.
func (x layout) showsInteger() bool {
	return x.fieldAt() > x.fractionSize()
}

// unit returns the least coefficient with all digits; in the bits of a datum it is the integer bit.
func (x layout) unit() word.Word {
	return word.Scaled(1, x.fractionSize())
}

// quietBit returns the bit of the fraction that tells quiet NaNs from signaling ones.
func (x layout) quietBit() word.Word {
	return word.Scaled(1, x.fractionSize()-1)
}

// cut returns the parts of bits; if a bit is set that the format does not have, the call ends with ErrArg.
func (x layout) cut(r api.Raw) parts {
	w := word.Word(r)
	guard.Must(w.Size() <= x.Width, api.ErrArg)
	p := parts{
		negative: w.Size() == x.Width,
		field:    int(w.Last(x.Width - 1).Down(x.fieldAt()).Lo),
		fraction: w.Last(x.fractionSize()),
	}
	p.integer = p.field != 0
	if x.showsInteger() {
		p.integer = w.Last(x.fieldAt()) != p.fraction
	}
	return p
}

// joined returns the bits that have these parts.
func (x layout) joined(p parts) api.Raw {
	w := word.Scaled(p.field, x.fieldAt()).Plus(p.fraction)
	if p.integer && x.showsInteger() {
		w = w.Plus(x.unit())
	}
	if p.negative {
		w = w.Plus(word.Scaled(1, x.Width-1))
	}
	return api.Raw(w)
}

// mark is a datum above 0 that begins, or ends, the data of its kind.
type mark int

const (
	leastNumber mark = iota
	leastNormal
	greatestNumber
	infinite
)

// places yields the places of the marks, which ascend.
func (x layout) places() iter.Seq2[mark, word.Word] {
	return func(yield func(mark, word.Word) bool) {
		end := word.Scaled(x.lastField(), x.fractionSize())
		_ = yield(leastNumber, word.Word{Lo: 1}) &&
			yield(leastNormal, x.unit()) &&
			yield(greatestNumber, end.Minus(word.Word{Lo: 1})) &&
			yield(infinite, end)
	}
}

// placeOf returns the place of a mark.
func (x layout) placeOf(wanted mark) (place word.Word) {
	for m, other := range x.places() {
		if m == wanted {
			place = other
		}
	}
	return place
}
