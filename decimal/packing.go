package decimal

// How many bits have three digits, and how many numbers have at most three digits.
const (
	tenBits  = 10
	thousand = 1000
)

// digit is one of three digits in ten bits: how it is read from the bits, and which bits it has there.
type digit struct {
	isLarge bool
	read    func(bits int) int
	bitsOf  func(value int) int
}

// at returns how far the bit with an index is shifted; the index of the most significant one is 0.
func at(index int) int {
	return tenBits - 1 - index
}

// small returns the digit from 0 to 7 whose three bits have these indices.
func small(first, second, third int) digit {
	high, middle, low := at(first), at(second), at(third)
	return digit{
		read:   func(bits int) int { return bits>>high&1<<2 + bits>>middle&1<<1 + bits>>low&1 },
		bitsOf: func(value int) int { return value>>2&1<<high + value>>1&1<<middle + value&1<<low },
	}
}

// large returns the digit 8 or 9 whose last bit has this index.
func large(last int) digit {
	low := at(last)
	return digit{
		isLarge: true,
		read:    func(bits int) int { return 8 + bits>>low&1 },
		bitsOf:  func(value int) int { return value & 1 << low },
	}
}

// row is which three digits ten bits have if those of them that mask shows are the tag.
type row struct {
	mask   int
	tag    int
	digits [3]digit
}

// packing is how ten bits mean three digits; just one row fits each ten bits, and just one three digits.
type packing []row

func packingOfDigits() packing {
	return packing{
		{0b000_000_1_00_0, 0b000_000_0_00_0, [...]digit{small(0, 1, 2), small(3, 4, 5), small(7, 8, 9)}},
		{0b000_000_1_11_0, 0b000_000_1_00_0, [...]digit{small(0, 1, 2), small(3, 4, 5), large(9)}},
		{0b000_000_1_11_0, 0b000_000_1_01_0, [...]digit{small(0, 1, 2), large(5), small(3, 4, 9)}},
		{0b000_000_1_11_0, 0b000_000_1_10_0, [...]digit{large(2), small(3, 4, 5), small(0, 1, 9)}},
		{0b000_110_1_11_0, 0b000_000_1_11_0, [...]digit{large(2), large(5), small(0, 1, 9)}},
		{0b000_110_1_11_0, 0b000_010_1_11_0, [...]digit{large(2), small(0, 1, 5), large(9)}},
		{0b000_110_1_11_0, 0b000_100_1_11_0, [...]digit{small(0, 1, 2), large(5), large(9)}},
		{0b000_110_1_11_0, 0b000_110_1_11_0, [...]digit{large(2), large(5), large(9)}},
	}
}

// unpack returns the number of the three digits that ten bits mean.
func (p packing) unpack(bits int) int {
	number := 0
	for _, r := range p {
		if bits&r.mask != r.tag {
			continue
		}
		for _, d := range r.digits {
			number = 10*number + d.read(bits)
		}
	}
	return number
}

// pack returns the least ten bits that mean the three digits of a number.
func (p packing) pack(number int) int {
	bits := 0
	values := [...]int{number / 100, number / 10 % 10, number % 10}
	for _, r := range p {
		if !r.fits(values) {
			continue
		}
		bits = r.tag
		for i, d := range r.digits {
			bits += d.bitsOf(values[i])
		}
	}
	return bits
}

// fits reports whether the digits of a row can have these values.
func (r row) fits(values [3]int) bool {
	for i, d := range r.digits {
		if d.isLarge != (values[i] >= 8) {
			return false
		}
	}
	return true
}
