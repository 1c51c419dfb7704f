package nat

import (
	"math/bits"

	"soroban/api"
	"soroban/guard"
)

// divCut is from how many elements of the divisor and of the quotient on division by blocks is faster than by elements.
const divCut = 100

// The roads to quotients.
const (
	byLong = iota
	byBlocks
	byNewton
)

// divider is a road to quotients, for divisors other than 0. One that cuts takes another road for divisors of less than cut elements.
type divider struct {
	cuts bool
	find func(a, b natural, cut int) (q, r natural)
}

func dividers() [3]divider {
	return [...]divider{
		byLong:   {find: func(a, b natural, _ int) (q, r natural) { return a.overElements(b) }},
		byBlocks: {find: natural.overBlocks, cuts: true},
		byNewton: {find: func(a, b natural, _ int) (q, r natural) { return a.overReciprocal(b) }},
	}
}

// quotient returns what a road finds, with the errors that all roads have.
func quotient(road int, a, b api.Nat, cut int) (q, r api.Nat, e api.Errno) {
	return two(func() (natural, natural) {
		way := dividers()[road]
		guard.Must(!way.cuts || goodCut(cut), api.ErrArg)
		guard.Must(len(b) > 0, api.ErrDiv)
		return way.find(natural(a), natural(b), cut)
	}, a, b)
}

// over returns a quotient and its rest by the road that is the fastest one.
func (a natural) over(b natural) (q, r natural) {
	if len(a)-len(b) < divCut {
		return a.overElements(b)
	}
	return a.overBlocks(b, divCut)
}

// overWord returns a quotient by one element, and the rest.
func (a natural) overWord(d uint32) (natural, uint32) {
	q := make(natural, len(a))
	copy(q, a)
	r := q.divide(d)
	return q.trimmed(), r
}

// divide divides a itself by one element, and returns the rest.
func (a natural) divide(d uint32) uint32 {
	var rest uint64
	for i := len(a) - 1; i >= 0; i-- {
		t := rest<<wordBits | uint64(a[i])
		a[i] = uint32(t / uint64(d))
		rest = t % uint64(d)
	}
	return uint32(rest)
}

// overElements finds a quotient element by element.
func (a natural) overElements(b natural) (q, r natural) {
	if a.compare(b) < 0 {
		return nil, a
	}
	if len(b) == 1 {
		q, d := a.overWord(b[0])
		return q, wordOf(d)
	}
	shift := b.spare()
	b = b.shiftedLeft(shift)
	rest := make(natural, len(a)+1)
	copy(rest, a.shiftedLeft(shift))
	q = make(natural, len(a)-len(b)+1)
	for i := len(q) - 1; i >= 0; i-- {
		part := rest[i : i+len(b)+1]
		q[i] = part.takeMost(b)
	}
	return q.trimmed(), rest.trimmed().shiftedRight(shift)
}

// spare returns by how many bits a number other than 0 can be shifted without another element: estimates need a divisor with a large first element.
func (a natural) spare() int {
	return bits.LeadingZeros32(a[len(a)-1])
}

// takeMost subtracts b from a itself as often as possible, and returns how often. It needs a number a with one element more than b, but below 2^32 times b, and a divisor b without spare bits.
func (a natural) takeMost(b natural) uint32 {
	x := a.estimate(b)
	high := uint64(a[len(b)])
	if a.decreaseTimes(b, uint32(x)) > high {
		a.increase(b) // the estimate was one too large
		x--
	}
	a[len(b)] = 0
	return uint32(x)
}

// estimate returns how often b fits in a, by the three first elements of a and the two first ones of b: just so often, or once more. It needs what takeMost needs.
func (a natural) estimate(b natural) uint64 {
	n := len(b)
	first, second := uint64(b[n-1]), uint64(b[n-2])
	top := uint64(a[n])<<wordBits | uint64(a[n-1])
	x, rest := top/first, top%first
	for x>>wordBits != 0 || x*second > rest<<wordBits|uint64(a[n-2]) {
		x--
		rest += first
		if rest>>wordBits != 0 {
			break
		}
	}
	return x
}

// decreaseTimes subtracts b times x from as many elements of a as b has, and returns what they lack, in units of the next element.
func (a natural) decreaseTimes(b natural, x uint32) uint64 {
	a = a[:len(b)]
	var lack uint64
	for i, y := range b {
		t := uint64(x)*uint64(y) + lack
		lack = t >> wordBits
		if a[i] < uint32(t) {
			lack++
		}
		a[i] -= uint32(t)
	}
	return lack
}

// overParts divides a, n elements after the other, by a divisor of at most n elements, given how the rest with the next n elements is divided.
func (a natural) overParts(n int, divide func(a natural) (q, r natural)) (q, r natural) {
	parts := (len(a) + n - 1) / n
	q = make(natural, parts*n)
	for at := n * (parts - 1); at >= 0; at -= n {
		var x natural
		x, r = divide(r.joined(a.above(at).below(n), n))
		copy(q[at:], x)
	}
	return q.trimmed(), r
}

// overBlocks finds a quotient by halves of the divisor, while it has cut elements.
func (a natural) overBlocks(b natural, cut int) (q, r natural) {
	if len(b) < cut || a.compare(b) < 0 {
		return a.overElements(b)
	}
	size, halvings := len(b), 0
	for size >= cut {
		size = (size + 1) / 2
		halvings++
	}
	size <<= halvings // so that it can be halved until it is less than cut
	shift := wordBits*size - b.bits()
	b = b.shiftedLeft(shift)
	var twoByOne func(a, b natural, n int) (q, r natural)
	twoByOne = func(a, b natural, n int) (q, r natural) {
		if n < cut {
			return a.overElements(b)
		}
		half := n / 2
		q1, r := threeByTwo(a.above(half), b, half, twoByOne)
		q0, r := threeByTwo(r.joined(a.below(half), half), b, half, twoByOne)
		return q1.joined(q0, half), r
	}
	q, r = a.shiftedLeft(shift).overParts(size, func(a natural) (q, r natural) { return twoByOne(a, b, size) })
	return q, r.shiftedRight(shift)
}

// threeByTwo divides by a number of 2 n elements without spare bits, if the quotient has at most n, given how this is done for n elements.
func threeByTwo(a, b natural, n int, twoByOne func(a, b natural, n int) (q, r natural)) (q, r natural) {
	first, second := b.above(n), b.below(n)
	if a.above(2*n).compare(first) < 0 {
		q, r = twoByOne(a.above(n), first, n)
	} else { // the quotient without the second part would not have n elements: take the largest one that has
		q = wordOf(1).shiftedLeft(wordBits * n).minus(wordOf(1))
		r = a.above(n).minus(q.times(first))
	}
	r = r.joined(a.below(n), n)
	taken := q.times(second)
	for r.compare(taken) < 0 { // at most twice
		q = q.minus(wordOf(1))
		r = r.plus(b)
	}
	return q, r.minus(taken)
}

// overReciprocal finds a quotient by products with the reciprocal of the divisor.
func (a natural) overReciprocal(b natural) (q, r natural) {
	if a.compare(b) < 0 {
		return nil, a
	}
	shift, n := b.spare(), len(b)
	b = b.shiftedLeft(shift)
	inverse := b.reciprocal()
	q, r = a.shiftedLeft(shift).overParts(n, func(a natural) (q, r natural) {
		return a.corrected(b, a.times(inverse).above(2*n))
	})
	return q, r.shiftedRight(shift)
}

// reciprocal returns the quotient of 2^(64 n) by a number of n elements without spare bits.
func (a natural) reciprocal() natural {
	n := len(a)
	if n == 1 {
		q, _ := bits.Div64(1, 0, uint64(a[0]))
		return fromUint(q)
	}
	half := (n + 1) / 2
	x := a.above(n - half).reciprocal()
	// The next x is 2 x - a x^2, with as many digits again that are right.
	twice := x.shiftedLeft(wordBits*(n-half) + 1)
	next := twice.minus(x.times(x).times(a).above(2 * half))
	q, _ := wordOf(1).shiftedLeft(2*wordBits*n).corrected(a, next)
	return q
}

// corrected returns a quotient and its rest from a number that is near the quotient.
func (a natural) corrected(b, q natural) (natural, natural) {
	taken := q.times(b)
	for taken.compare(a) > 0 {
		q, taken = q.minus(wordOf(1)), taken.minus(b)
	}
	rest := a.minus(taken)
	for rest.compare(b) >= 0 {
		q, rest = q.plus(wordOf(1)), rest.minus(b)
	}
	return q, rest
}
