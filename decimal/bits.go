package decimal

import (
	"soroban/api"
	"soroban/guard"
	"soroban/word"
)

// How the combination of what is no finite number begins: its first five bits, or six of a NaN that signals.
const (
	infinityStart = 0b11110
	nanStart      = 0b11111
	signalStart   = 0b111111
	startBits     = 5
)

// field is a part of bits: how it is read from them, and how what it has is put in its place.
type field struct {
	read   func(all word.Word) word.Word
	placed func(part word.Word) word.Word
}

// fieldAt returns the field of so many bits that has so many bits behind it.
func fieldAt(shift, size int) field {
	return field{
		read:   func(all word.Word) word.Word { return all.Down(shift).Last(size) },
		placed: func(part word.Word) word.Word { return part.Up(shift) },
	}
}

// codec reads and writes the bits of a format in an encoding.
type codec struct {
	format
	encoding
	sign        field
	combination field
	tail        field
}

// codecOf returns the codec of a format and an encoding; if there is no such encoding, the call ends with ErrArg.
func codecOf(x format, enc int) codec {
	size := startBits + x.behind
	return codec{
		format:      x,
		encoding:    encodingOf(x, enc),
		sign:        fieldAt(x.trailing+size, 1),
		combination: fieldAt(x.trailing, size),
		tail:        fieldAt(0, x.trailing),
	}
}

// meaning returns the datum that bits mean; if one is 1 that the format does not have, the call ends with ErrArg.
func (c codec) meaning(raw api.Raw) datum {
	all := word.Word(raw)
	guard.Must(all.Size() <= c.trailing+startBits+c.behind+1, api.ErrArg)
	d := datum{format: c.format, negative: c.sign.read(all) != word.Word{}}
	g, rest := int(c.combination.read(all).Lo), c.rest(c.tail.read(all))
	switch start := g >> c.behind; {
	case start == infinityStart:
		d.class = api.ClInf
	case start < infinityStart:
		exp, head := c.parted(g)
		d.class, d.exp = api.ClFinite, c.least+exp
		d.coef = limited(c.unit().Times(uint64(head)).Plus(rest), c.digits)
	case g>>(c.behind-1) == signalStart:
		d.class, d.coef = api.ClSignal, limited(rest, c.digits-1)
	default:
		d.class, d.coef = api.ClQuiet, limited(rest, c.digits-1)
	}
	return d
}

// limited returns a number if it has at most so many decimal digits, otherwise 0.
func limited(w word.Word, digits int) word.Word {
	if hasDigits(w, digits) {
		return w
	}
	return word.Word{}
}

// bits returns the canonical bits of a datum.
func (c codec) bits(d datum) api.Raw {
	head, rest := 0, d.coef
	for unit := c.unit(); rest.Compare(unit) >= 0; rest = rest.Minus(unit) {
		head++ // it is at most 9
	}
	all := c.tail.placed(c.trail(rest))
	all = all.Plus(c.combination.placed(word.Scaled(c.combined(d, head), 0)))
	if d.negative {
		all = all.Plus(c.sign.placed(word.Scaled(1, 0)))
	}
	return api.Raw(all)
}

// combined returns the combination of a datum whose coefficient has a head.
func (c codec) combined(d datum, head int) int {
	switch d.class {
	case api.ClFinite:
		return c.joined(d.exp-c.least, head)
	case api.ClInf:
		return infinityStart << c.behind
	case api.ClQuiet:
		return nanStart << c.behind
	}
	return signalStart << (c.behind - 1)
}
