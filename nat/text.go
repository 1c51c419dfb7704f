package nat

import (
	"iter"
	"slices"
)

// Digits are read and written by chunks that fit in one element.
const (
	chunkDigits = 9
	chunk       = 1000000000
)

// isNumeral reports whether a text is 0, or digits of which the first one is not 0.
func isNumeral(s string) bool {
	for i := range len(s) {
		if s[i] < '0' || s[i] > '9' {
			return false
		}
	}
	return s == "0" || s != "" && s[0] != '0'
}

// fromDigits returns the number with some decimal digits.
func fromDigits(s string) natural {
	var n natural
	for len(s) > 0 {
		size := (len(s)-1)%chunkDigits + 1
		scale, value := uint32(1), uint32(0)
		for i := range size {
			scale *= 10
			value = value*10 + uint32(s[i]-'0')
		}
		n = n.extended(scale, value).limited()
		s = s[size:]
	}
	return n
}

// extended returns x a + y; it may change a itself.
func (a natural) extended(x, y uint32) natural {
	carry := uint64(y)
	for i := range a {
		t := uint64(x)*uint64(a[i]) + carry
		a[i] = uint32(t)
		carry = t >> wordBits
	}
	if carry != 0 {
		a = append(a, uint32(carry))
	}
	return a
}

// digits yields the decimal digits of a number, the last one first; of 0 none.
func (a natural) digits() iter.Seq[byte] {
	return func(yield func(byte) bool) {
		rest := slices.Clone(a)
		for len(rest) > 0 {
			part := rest.divide(chunk)
			rest = rest.trimmed()
			for i := 0; i < chunkDigits && (part > 0 || len(rest) > 0); i++ {
				if !yield('0' + byte(part%10)) {
					return
				}
				part /= 10
			}
		}
	}
}

func (a natural) text() string {
	if len(a) == 0 {
		return "0"
	}
	var text []byte
	for d := range a.digits() {
		text = append(text, d)
	}
	slices.Reverse(text)
	return string(text)
}
