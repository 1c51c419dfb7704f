package whole

import (
	"strings"

	"soroban/api"
	"soroban/guard"
	"soroban/nat"
)

// constantTypes are the types of constants in C, in the order in which they are tried, and how many bits a value may have.
var constantTypes = [...]struct {
	kind api.CType
	bits int
}{
	{api.CType{Length: api.SfInt}, 31},
	{api.CType{Length: api.SfInt, Unsigned: true}, 32},
	{api.CType{Length: api.SfLong}, 63},
	{api.CType{Length: api.SfLong, Unsigned: true}, 64},
	{api.CType{Length: api.SfLongLong}, 63},
	{api.CType{Length: api.SfLongLong, Unsigned: true}, 64},
}

// parsedConstant returns what a constant says.
func parsedConstant(s string) api.Constant {
	r := &reader{s: s}
	c := api.Constant{Base: r.constantBase()}
	digits := r.digits(c.Base, true)
	c.Unsigned, c.Length = r.suffix()
	r.end()
	c.Value = value(digits, c.Base)
	return c
}

// constantBase returns the base that the beginning of a constant says, and reads what does not belong to the digits.
func (r *reader) constantBase() int {
	switch {
	case !r.accept("0"):
		return 10
	case r.accept("xX"):
		return 16
	case r.accept("bB"):
		return 2
	}
	r.at = 0 // the 0 is an octal digit like the others
	return 8
}

// suffix reads the suffix of a constant.
func (r *reader) suffix() (unsigned bool, length int) {
	unsigned = r.accept("uU")
	for _, letter := range [...]string{"l", "L"} {
		if r.accept(letter) {
			length = api.SfLong
			if r.accept(letter) {
				length = api.SfLongLong
			}
			break
		}
	}
	return unsigned || r.accept("uU"), length
}

// isConstant reports whether there is a constant that says this.
func isConstant(c api.Constant) bool {
	switch c.Base {
	case 2, 8, 16:
	case 10:
		if len(c.Value) == 0 {
			return false
		}
	default:
		return false
	}
	return nat.Valid(c.Value) && c.Length >= api.SfInt && c.Length <= api.SfLongLong
}

// printed returns the text of a constant.
func printed(c api.Constant) string {
	prefix, suffix := "", ""
	switch c.Base {
	case 16:
		prefix = "0x"
	case 2:
		prefix = "0b"
	case 8:
		if len(c.Value) > 0 { // the text of 0 alone is octal
			prefix = "0"
		}
	}
	if c.Unsigned {
		suffix = "U"
	}
	suffix += strings.Repeat("L", c.Length)
	return prefix + integer{Abs: c.Value}.text(c.Base, false) + suffix
}

// typeOf returns the first type in which the value of a constant fits.
func typeOf(c api.Constant) api.CType {
	size := bitsOf(c.Value)
	for _, t := range constantTypes {
		if t.bits >= size && t.kind.Length >= c.Length && mayBe(c, t.kind.Unsigned) {
			return t.kind
		}
	}
	guard.FailAt(api.ErrRange, 0)
	return api.CType{}
}

// mayBe reports whether the type of a constant may be one without sign, or, if unsigned is false, one with a sign.
func mayBe(c api.Constant, unsigned bool) bool {
	if unsigned {
		return c.Unsigned || c.Base != 10
	}
	return !c.Unsigned
}
