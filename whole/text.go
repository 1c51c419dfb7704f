package whole

import (
	"iter"
	"math"
	"slices"
	"strings"

	"soroban/api"
	"soroban/guard"
	"soroban/nat"
)

// The digits of all bases.
const (
	smallDigits = "0123456789abcdefghijklmnopqrstuvwxyz"
	largeDigits = "0123456789ABCDEFGHIJKLMNOPQRSTUVWXYZ"
	maxBase     = len(smallDigits)
)

// mark may stand between two digits of a constant.
const mark = "'"

func isBase(base int) bool {
	return base >= 2 && base <= maxBase
}

// digitValue returns what a digit counts; of another byte more than any base has.
func digitValue(c byte) int {
	switch {
	case c >= '0' && c <= '9':
		return int(c - '0')
	case c >= 'a' && c <= 'z':
		return int(c-'a') + 10
	case c >= 'A' && c <= 'Z':
		return int(c-'A') + 10
	}
	return maxBase
}

// chunkOf returns the greatest power of a base that fits in one element, and its exponent: so many digits are read or written at once.
func chunkOf(base int) (scale uint32, size int) {
	scale = 1
	for uint64(scale)*uint64(base) <= math.MaxUint32 {
		scale *= uint32(base)
		size++
	}
	return scale, size
}

// digitsFromEnd yields the digits of a natural number, the last one first; of 0 none.
func digitsFromEnd(a api.Nat, base int) iter.Seq[int] {
	scale, size := chunkOf(base)
	return func(yield func(int) bool) {
		rest := a
		for len(rest) > 0 {
			quotient, low := guard.FoundTwo(nat.Div(rest, api.Nat{scale}))
			part := wordOf(low)
			rest = quotient
			for i := 0; i < size && (part > 0 || len(rest) > 0); i++ {
				if !yield(int(part % uint64(base))) {
					return
				}
				part /= uint64(base)
			}
		}
	}
}

func (a integer) text(base int, upper bool) string {
	letters := smallDigits
	if upper {
		letters = largeDigits
	}
	var text []byte
	for d := range digitsFromEnd(a.Abs, base) {
		text = append(text, letters[d])
	}
	if len(text) == 0 {
		text = append(text, '0')
	}
	if a.Neg {
		text = append(text, '-')
	}
	slices.Reverse(text)
	return string(text)
}

// reader is a text, and how far it is read.
type reader struct {
	s  string
	at int
}

// accept reads one byte if it is one of some, and reports whether it is.
func (r *reader) accept(some string) bool {
	if r.at == len(r.s) || strings.IndexByte(some, r.s[r.at]) < 0 {
		return false
	}
	r.at++
	return true
}

// need ends the call if what has to stand at this place does not.
func (r *reader) need(so bool) {
	if !so {
		guard.FailAt(api.ErrForm, r.at)
	}
}

// digit reads a digit if there is one, and reports whether there is.
func (r *reader) digit(base int) bool {
	if r.at == len(r.s) || digitValue(r.s[r.at]) >= base {
		return false
	}
	r.at++
	return true
}

// digits reads one or more digits, between which a mark may stand if marked is true, and returns them and the marks.
func (r *reader) digits(base int, marked bool) string {
	from := r.at
	r.need(r.digit(base))
	for {
		if marked && r.accept(mark) {
			r.need(r.digit(base))
		} else if !r.digit(base) {
			return r.s[from:r.at]
		}
	}
}

// end ends the call if there is something more to read.
func (r *reader) end() {
	r.need(r.at == len(r.s))
}

// value returns the number with some digits, which may have marks between them.
func value(digits string, base int) api.Nat {
	full, _ := chunkOf(base)
	var n api.Nat
	scale, part := uint32(1), uint32(0)
	for i := range len(digits) {
		if digits[i] == mark[0] {
			continue
		}
		scale *= uint32(base)
		part = part*uint32(base) + uint32(digitValue(digits[i]))
		if scale == full {
			n = sumTimes(nat.FromUint(uint64(part)), n, api.Nat{scale})
			scale, part = 1, 0
		}
	}
	return sumTimes(nat.FromUint(uint64(part)), n, api.Nat{scale})
}

// parsed returns the integer with a text.
func parsed(s string, base int) integer {
	r := &reader{s: s}
	negative := r.accept("-")
	if !negative {
		r.accept("+")
	}
	digits := r.digits(base, false)
	r.end()
	return signed(negative, value(digits, base))
}
