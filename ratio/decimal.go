package ratio

import (
	"soroban/api"
	"soroban/guard"
	"soroban/nat"
	"soroban/wide"
)

// decimal returns the decimal of a number.
func (a number) decimal() string {
	integer, rest := guard.FoundTwo(nat.Div(a.Num.Abs, a.Den))
	text := guard.Found(nat.Text(integer))
	if a.Num.Neg {
		text = "-" + text
	}
	if len(rest) == 0 {
		return text
	}
	text += "."
	digits, again := expansion(rest, a.Den, api.MaxText-len(text))
	text += digits[:again]
	if again < len(digits) {
		text += "(" + digits[again:] + ")"
	}
	guard.Must(len(text) <= api.MaxText, api.ErrLimit)
	return text
}

// expansion returns the digits of a quotient below 1 up to where they repeat, and from where on they do; more than most digits end the call. (Ten times the rest may be too large for package nat.)
func expansion(num, den api.Nat, most int) (digits string, again int) {
	var written []byte
	rest, divisor := wide.Of(num), wide.Of(den)
	seen := map[string]int{} // how many digits there were when a rest was left
	for len(rest) > 0 {
		key := keyOf(rest)
		if at, ok := seen[key]; ok {
			return string(written), at
		}
		guard.Must(len(written) < most, api.ErrLimit)
		seen[key] = len(written)
		digit, left := rest.Times(wide.Number{10}).Over(divisor)
		written = append(written, digitOf(digit))
		rest = left
	}
	return string(written), len(written)
}

// digitOf returns the digit that a number below 10 is.
func digitOf(n wide.Number) byte {
	if len(n) == 0 {
		return '0'
	}
	return '0' + byte(n[0])
}

// keyOf returns bytes by which a number is known.
func keyOf(n wide.Number) string {
	key := make([]byte, 0, 8*len(n))
	for _, x := range n {
		for shift := 0; shift < 64; shift += 8 {
			key = append(key, byte(x>>shift))
		}
	}
	return string(key)
}

// parsedDecimal returns the number with a decimal.
func parsedDecimal(s string) number {
	r := readerOf(s)
	negative := r.accept("-")
	integer := r.someDigits()
	var once, period string
	if r.accept(".") {
		once = r.digits()
		if r.accept("(") {
			period = r.someDigits()
			r.need(")")
		}
		guard.Must(once != "" || period != "", api.ErrForm)
	}
	r.end()
	num, den := wideValue(integer+once), wideTen(len(once))
	if period != "" { // with one period more, the digits behind are the same
		num = wideValue(integer + once + period).Minus(num)
		den = den.Times(wideTen(len(period)).Minus(wide.Number{1}))
	}
	return wideQuotient(negative, num, den)
}
