package whole

import (
	"soroban/api"
	"soroban/guard"
	"soroban/nat"
)

// row is a step of Euclid's algorithm on two natural numbers a and b. Its rest is x a - y b, or, in every other row, y b - x a.
type row struct {
	rest, x, y api.Nat
}

// commonDivisor returns the greatest common divisor g, and x and y with g = a x + b y.
func (a integer) commonDivisor(b integer) (g, x, y integer) {
	if len(b.Abs) == 0 {
		return integer{Abs: a.Abs}, fromInt(a.sign()), integer{}
	}
	last, end, turned := euclid(a.Abs, b.Abs)
	x, y = signed(turned != a.Neg, last.x), signed(turned == b.Neg, last.y)
	if x.Neg { // end.x and end.y are b and a without what they have in common
		x = x.plus(integer{Abs: end.x})
		y = y.minus(signed(a.Neg != b.Neg, end.y))
	}
	return integer{Abs: last.rest}, x, y
}

// inverse returns the number from 0 to m - 1 whose product with a has the rest 1 by m, for a modulus m above 0.
func (a integer) inverse(m integer) integer {
	g, x, _ := a.commonDivisor(m)
	guard.Must(compareNats(g.Abs, api.Nat{1}) == 0, api.ErrNone)
	return x
}

// euclid returns the row whose rest is the greatest common divisor, and the next one, whose rest is 0; turned says that the rest of the former is y b - x a. It takes many steps at once where the first bits of the numbers say what they are (Lehmer's rule).
func euclid(a, b api.Nat) (last, end row, turned bool) {
	last, end = row{rest: a, x: api.Nat{1}}, row{rest: b, y: api.Nat{1}}
	for len(end.rest) > 0 {
		first, second, odd := sureSteps(leadingBits(last.rest, end.rest))
		if first.y == 0 { // the first row would be the last one again
			last, end = end, last.next(end)
			turned = !turned
			continue
		}
		last, end = first.of(last, end), second.of(last, end)
		turned = turned != odd
	}
	return last, end, turned
}

// next returns the row behind a row and another one.
func (r row) next(s row) row {
	q, rest := guard.FoundTwo(nat.Div(r.rest, s.rest))
	return row{rest, sumTimes(r.x, s.x, q), sumTimes(r.y, s.y, q)}
}

// sumTimes returns a + b q.
func sumTimes(a, b, q api.Nat) api.Nat {
	return guard.Found(nat.Add(a, guard.Found(nat.Mul(b, q))))
}

// The steps of Euclid's algorithm are tried on so many bits that sums of them fit in a word; the factors that come of it have at most half as many, and so they fit in an element.
const (
	leadingSize = 63
	factorSize  = 32
)

// leadingBits returns the first bits of a, and those of b at the same places; nothing of numbers that have no more bits, or so many that products with factors could be too large for package nat.
func leadingBits(a, b api.Nat) (x, y uint64) {
	size := bitsOf(a)
	if size <= leadingSize || size > elementBits*api.MaxLimbs-factorSize || bitsOf(b) > size {
		return 0, 0
	}
	shift := size - leadingSize
	return wordOf(guard.Found(nat.Shr(a, shift))), wordOf(guard.Found(nat.Shr(b, shift)))
}

// shortRow is a row of the algorithm on two numbers that fit in a word.
type shortRow struct {
	rest, x, y uint64
}

// sureSteps returns two rows, one behind the other, whose factors are the same for all numbers with the first bits a and b (as Collins has shown); odd says that the first one has an odd number.
func sureSteps(a, b uint64) (first, second shortRow, odd bool) {
	second, third := shortRow{rest: a, x: 1}, shortRow{rest: b, y: 1}
	odd = true
	for third.rest >= third.y && second.rest >= third.rest+second.y+third.y {
		q := second.rest / third.rest
		first, second, third = second, third, shortRow{second.rest % third.rest, second.x + q*third.x, second.y + q*third.y}
		odd = !odd
	}
	return first, second, odd
}

// of returns the row that has these factors for the rests of two rows.
func (s shortRow) of(last, end row) row {
	x, y := nat.FromUint(s.x), nat.FromUint(s.y)
	rest := integer{Abs: guard.Found(nat.Mul(last.rest, x))}.minus(integer{Abs: guard.Found(nat.Mul(end.rest, y))})
	return row{
		rest.Abs,
		sumTimes(guard.Found(nat.Mul(last.x, x)), end.x, y),
		sumTimes(guard.Found(nat.Mul(last.y, x)), end.y, y),
	}
}
