package ratio

import (
	"strings"

	"soroban/api"
	"soroban/guard"
	"soroban/nat"
	"soroban/whole"
	"soroban/wide"
)

const decimalDigits = "0123456789"

func (a number) text() string {
	s := guard.Found(whole.Text(a.Num, 10, false))
	if !isOne(a.Den) {
		s += "/" + guard.Found(nat.Text(a.Den))
	}
	return s
}

// reader is a text, or what is left of it to read. A text that has not the form ends the call.
type reader struct {
	rest string
}

func readerOf(s string) *reader {
	guard.Must(len(s) <= api.MaxText, api.ErrLimit)
	return &reader{s}
}

// accept reads what is asked for if it is there, and reports whether it is.
func (r *reader) accept(some string) bool {
	rest, found := strings.CutPrefix(r.rest, some)
	r.rest = rest
	return found
}

func (r *reader) need(some string) {
	guard.Must(r.accept(some), api.ErrForm)
}

// digits reads any digits.
func (r *reader) digits() string {
	rest := strings.TrimLeft(r.rest, decimalDigits)
	digits := r.rest[:len(r.rest)-len(rest)]
	r.rest = rest
	return digits
}

// someDigits reads at least one digit.
func (r *reader) someDigits() string {
	digits := r.digits()
	guard.Must(digits != "", api.ErrForm)
	return digits
}

func (r *reader) end() {
	guard.Must(r.rest == "", api.ErrForm)
}

// parsed returns the number with a text.
func parsed(s string) number {
	r := readerOf(s)
	negative := r.accept("-")
	num, den := r.someDigits(), "1"
	if r.accept("/") {
		den = r.someDigits()
	}
	r.end()
	divisor := wideValue(den)
	guard.Must(len(divisor) > 0, api.ErrDiv)
	return wideQuotient(negative, wideValue(num), divisor)
}

// chunkSize is how many decimal digits surely fit in a number of package nat.
const chunkSize = 9000

// wideValue returns the number with some digits.
func wideValue(digits string) wide.Number {
	var n wide.Number
	for len(digits) > 0 {
		size := min(len(digits), chunkSize)
		n = n.Times(wideTen(size)).Plus(wide.Of(value(digits[:size])))
		digits = digits[size:]
	}
	return n
}

// value returns the number with digits that fit in it, with any zeros in front.
func value(digits string) api.Nat {
	digits = strings.TrimLeft(digits, "0")
	if digits == "" {
		return nil
	}
	return guard.Found(nat.Parse(digits))
}

// wideTen returns 10 to the power of n.
func wideTen(n int) wide.Number {
	power := wide.Of(api.Nat{1})
	for n > 0 {
		size := min(n, chunkSize)
		power = power.Times(wide.Of(guard.Found(nat.Pow(api.Nat{10}, size))))
		n -= size
	}
	return power
}
