package dyad

import (
	"soroban/api"
	"soroban/guard"
	"soroban/nat"
	"soroban/wide"
)

// lost is what rounding takes from a number: its sign, whether the last bit that stays is 1, the first bit that goes, and whether there is a 1 behind it.
type lost struct {
	negative, odd, half, more bool
}

func (l lost) some() bool {
	return l.half || l.more
}

// directions returns a table of when a number is rounded away from 0, by directions.
func directions() [6]func(lost) bool {
	return [...]func(lost) bool{
		api.RdEven: func(l lost) bool { return l.half && (l.more || l.odd) },
		api.RdAway: func(l lost) bool { return l.half },
		api.RdZero: func(l lost) bool { return false },
		api.RdUp:   func(l lost) bool { return l.some() && !l.negative },
		api.RdDown: func(l lost) bool { return l.some() && l.negative },
	}
}

func isDirection(dir int) bool {
	return dir >= api.RdEven && dir <= api.RdDown
}

// cut is a number whose digits are cut off: more says that there are others behind them.
type cut struct {
	fraction
	more bool
}

func exact(x fraction) cut {
	return cut{x, false}
}

// rounded returns a number rounded to so many bits. Where digits are cut off, there is at least one more than these bits.
func (x cut) rounded(bits, dir int) fraction {
	digits := x.man.Magnitude
	n := digits.Bits() - bits
	if n <= 0 {
		return x.fraction
	}
	stay := digits.Halved(n)
	goes := lost{
		negative: x.man.Negative,
		odd:      stay.Bit(0),
		half:     digits.Bit(n - 1),
		more:     x.more || digits.Zeros() < n-1,
	}
	if directions()[dir](goes) {
		stay = stay.Plus(wide.Number{1})
	}
	return fraction{wide.Integer{Negative: x.man.Negative, Magnitude: stay}, x.exp + n}
}

// over returns a quotient, cut behind more than so many bits, for a divisor other than 0.
func (x fraction) over(y fraction, bits int) cut {
	if x.isZero() {
		return exact(x)
	}
	dividend, divisor := x.man.Magnitude, y.man.Magnitude
	n := divisor.Bits() + bits + 1 - dividend.Bits()
	dividend, more := dividend.Moved(n)
	quotient, rest := dividend.Over(divisor)
	man := wide.Integer{Negative: x.man.Negative != y.man.Negative, Magnitude: quotient}
	return cut{fraction{man, x.exp - y.exp - n}, more || len(rest) > 0}
}

// cutRat returns a rational number, cut behind more than so many bits.
func cutRat(r api.Rat, bits int) cut {
	return fractionOf(r.Num, 0).over(fractionOf(api.Int{Abs: r.Den}, 0), bits)
}

// root returns a square root, cut behind more than so many bits, for a number that is not negative.
func (x fraction) root(bits int) cut {
	if x.isZero() {
		return exact(x)
	}
	digits := x.man.Magnitude
	n := 2*(bits+1) - digits.Bits()
	if (x.exp-n)%2 != 0 {
		n++
	}
	digits, more := digits.Moved(n)
	root, rest := guard.FoundTwo(nat.Root(digits.Nat(), 2))
	man := wide.Integer{Magnitude: wide.Of(root)}
	return cut{fraction{man, (x.exp - n) / 2}, more || len(rest) > 0}
}
