package nat

// What Lehmer's rule looks at, and how far it goes: the products of factors and elements, and their sums, must fit in an int64.
const (
	leadingBits = 62
	factorLimit = 1 << 30
)

// factors are what several steps of Euclid's algorithm make of two numbers a and b: p a + q b, and r a + s b.
type factors struct{ p, q, r, s int64 }

// commonDivisor returns the greatest common divisor by Euclid's algorithm, which takes many steps at once where the first bits of the numbers say what they are.
func (a natural) commonDivisor(b natural) natural {
	if a.compare(b) < 0 {
		a, b = b, a
	}
	for len(a) > 2 && len(b) > 0 {
		f := a.leadingSteps(b)
		if f.q == 0 { // not one step is sure
			_, rest := a.over(b)
			a, b = b, rest
			continue
		}
		a, b = a.combined(b, f.p, f.q), a.combined(b, f.r, f.s)
	}
	if len(b) == 0 {
		return a
	}
	return fromUint(commonDivisorOfWords(a.uint(), b.uint()))
}

func commonDivisorOfWords(x, y uint64) uint64 {
	for y != 0 {
		x, y = y, x%y
	}
	return x
}

// leadingSteps returns the steps of Euclid's algorithm, for a not below b, that are the same for all numbers with the first bits of a and b.
func (a natural) leadingSteps(b natural) factors {
	shift := a.bits() - leadingBits
	x, y := int64(a.shiftedRight(shift).uint()), int64(b.shiftedRight(shift).uint())
	f := factors{p: 1, s: 1}
	for y+f.r != 0 && y+f.s != 0 {
		k := (x + f.p) / (y + f.r)
		if k != (x+f.q)/(y+f.s) || k >= factorLimit {
			break
		}
		p, q := f.p-k*f.r, f.q-k*f.s
		if max(p, -p, q, -q) >= factorLimit {
			break
		}
		f = factors{f.r, f.s, p, q}
		x, y = y, x-k*y
	}
	return f
}

// combined returns x a + y b, which is not negative, for b of at most as many elements as a.
func (a natural) combined(b natural, x, y int64) natural {
	sum := make(natural, len(a))
	var carry int64
	for i := range sum {
		t := x*int64(a[i]) + carry
		if i < len(b) {
			t += y * int64(b[i])
		}
		sum[i] = uint32(t)
		carry = t >> wordBits
	}
	return sum.trimmed()
}
