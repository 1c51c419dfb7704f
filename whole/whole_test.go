package whole_test

import (
	"math"
	"math/big"
	"math/rand"
	"strings"
	"testing"

	"soroban/api"
	"soroban/whole"
)

func TestValid(t *testing.T) { // V1
	for _, a := range invalid() {
		if whole.Valid(a) {
			t.Errorf("Valid: %v with %d elements", a.Neg, len(a.Abs))
		}
	}
	for _, a := range append(integers(), largeIntegers()...) {
		if !whole.Valid(a) {
			t.Errorf("not Valid: %v", a)
		}
	}
}

func TestInts(t *testing.T) { // V2
	for _, i := range []int{0, 1, -1, 9, -9, most, -most, most + 1, -most - 1, 1 << 62, math.MaxInt - 1, math.MaxInt, math.MinInt, math.MinInt + 1} {
		same(t, "FromInt", whole.FromInt(i), api.OK, big.NewInt(int64(i)))
	}
	for _, a := range append(integers(), largeIntegers()...) {
		i, e := whole.ToInt(a)
		x := oracle(a)
		switch {
		case !x.IsInt64() && (i != 0 || e != api.ErrRange):
			t.Errorf("ToInt of %v: %d, error %d", x, i, e)
		case x.IsInt64() && (i != int(x.Int64()) || e != api.OK):
			t.Errorf("ToInt of %v: %d, error %d", x, i, e)
		}
	}
}

func TestSignAndCmp(t *testing.T) { // V3: also where the difference would be too large
	list := append(integers(), largeIntegers()...)
	for _, a := range list {
		x := oracle(a)
		if s, e := whole.Sign(a); s != x.Sign() || e != api.OK {
			t.Errorf("Sign of %v: %d, error %d", x, s, e)
		}
		for _, b := range list {
			if c, e := whole.Cmp(a, b); c != x.Cmp(oracle(b)) || e != api.OK {
				t.Errorf("Cmp of %v and %v: %d, error %d", a, b, c, e)
			}
		}
	}
}

func TestSumsAndProducts(t *testing.T) { // V4
	list := append(integers(), largeIntegers()...)
	for _, a := range list {
		x := oracle(a)
		negative, e := whole.Neg(a)
		same(t, "Neg", negative, e, new(big.Int).Neg(x))
		for _, b := range list {
			y := oracle(b)
			sum, e := whole.Add(a, b)
			same(t, "Add", sum, e, new(big.Int).Add(x, y))
			difference, e := whole.Sub(a, b)
			same(t, "Sub", difference, e, new(big.Int).Sub(x, y))
			product, e := whole.Mul(a, b)
			same(t, "Mul", product, e, new(big.Int).Mul(x, y))
		}
	}
}

// quotient returns a quotient that is rounded in a way, and its rest.
func quotient(a, b *big.Int, how int) (q, r *big.Int) {
	q, r = new(big.Int).QuoRem(a, b, new(big.Int))
	farther := false
	switch how {
	case api.DvDown:
		farther = r.Sign() != 0 && r.Sign() != b.Sign()
	case api.DvEuclid:
		farther = r.Sign() < 0
	case api.DvNear:
		c := new(big.Int).Lsh(r, 1).CmpAbs(b)
		farther = c > 0 || c == 0 && q.Bit(0) == 1
	}
	if farther {
		q.Add(q, big.NewInt(int64(a.Sign()*b.Sign())))
		r.Sub(a, new(big.Int).Mul(q, b))
	}
	return q, r
}

func TestDiv(t *testing.T) { // V5
	list := append(integers(), largeIntegers()...)
	for _, a := range list {
		for _, b := range list {
			if len(b.Abs) == 0 {
				continue
			}
			for how := api.DvZero; how <= api.DvNear; how++ {
				q, r, e := whole.Div(a, b, how)
				x, y := quotient(oracle(a), oracle(b), how)
				same(t, "quotient", q, e, x)
				same(t, "rest", r, e, y)
			}
		}
	}
}

func TestDivNear(t *testing.T) { // V5: halves, and what is next to them
	r := rand.New(rand.NewSource(5))
	for range 300 {
		half, q := natural(r, 1+r.Intn(6)), number(r, r.Intn(4))
		for _, more := range []int64{-1, 0, 1} {
			b := new(big.Int).Lsh(oracle(half), 1)
			a := new(big.Int).Mul(b, oracle(q))
			a.Add(a, oracle(half)).Add(a, big.NewInt(more))
			for _, c := range []*big.Int{b, new(big.Int).Neg(b)} {
				x, y := quotient(a, c, api.DvNear)
				p, s, e := whole.Div(own(a), own(c), api.DvNear)
				same(t, "quotient", p, e, x)
				same(t, "rest", s, e, y)
			}
		}
	}
}

func TestDivErrors(t *testing.T) { // V5
	for _, a := range []api.Int{{}, n(7), n(-7), largest()} {
		for _, how := range []int{0, 5, -1, math.MinInt, math.MaxInt} {
			for _, b := range []api.Int{{}, n(2), n(-2)} {
				q, r, e := whole.Div(a, b, how)
				failed(t, "Div", q, e, api.ErrArg)
				failed(t, "Div", r, e, api.ErrArg)
			}
		}
		for how := api.DvZero; how <= api.DvNear; how++ {
			q, r, e := whole.Div(a, api.Int{}, how)
			failed(t, "Div by 0", q, e, api.ErrDiv)
			failed(t, "Div by 0", r, e, api.ErrDiv)
		}
	}
}

func TestPow(t *testing.T) { // V6
	for _, a := range integers() {
		for _, i := range []int{0, 1, 2, 3, 4, 5, 7, 8, 31, 100} {
			p, e := whole.Pow(a, i)
			same(t, "Pow", p, e, new(big.Int).Exp(oracle(a), big.NewInt(int64(i)), nil))
		}
		for _, i := range []int{-1, -2, math.MinInt} {
			p, e := whole.Pow(a, i)
			failed(t, "Pow", p, e, api.ErrArg)
		}
		if oracle(a).CmpAbs(big.NewInt(1)) > 0 {
			for _, i := range []int{maxBits, 1 << 32, math.MaxInt} {
				p, e := whole.Pow(a, i)
				failed(t, "Pow", p, e, api.ErrLimit)
			}
		}
	}
	for _, i := range []int{1 << 40, 1<<40 + 1, math.MaxInt - 1, math.MaxInt} {
		for _, a := range []int{0, 1, -1} {
			want := a
			if i%2 == 0 {
				want = a * a
			}
			p, e := whole.Pow(n(a), i)
			same(t, "Pow", p, e, big.NewInt(int64(want)))
		}
	}
}

func TestPowLimit(t *testing.T) { // V6: the last power that is not too large, and the next one
	for _, a := range []int{2, -2, 3, -3, -4, 10, -most, most + 1, -most - 1, math.MinInt} {
		x, p, i := big.NewInt(int64(a)), big.NewInt(1), 0
		for p.BitLen() <= maxBits {
			p.Mul(p, x)
			i++
		}
		large, e := whole.Pow(n(a), i)
		failed(t, "Pow", large, e, api.ErrLimit)
		last, e := whole.Pow(n(a), i-1)
		same(t, "Pow", last, e, p.Quo(p, x))
	}
}

// checkModPow checks ModPow by package big.
func checkModPow(t *testing.T, a, i, m api.Int) {
	t.Helper()
	x, y, z := oracle(a), oracle(i), oracle(m)
	want := new(big.Int).Exp(new(big.Int).Mod(x, z), y, z)
	p, e := whole.ModPow(a, i, m)
	same(t, "ModPow", p, e, want.Mod(want, z))
}

func TestModPow(t *testing.T) { // V6
	r := rand.New(rand.NewSource(6))
	for a := -9; a < 10; a++ {
		for i := range 8 {
			for m := 1; m < 20; m++ {
				checkModPow(t, n(a), n(i), n(m))
			}
		}
	}
	for _, a := range integers() {
		for _, m := range integers() {
			if len(m.Abs) > 0 && !m.Neg {
				checkModPow(t, a, api.Int{}, m)
				checkModPow(t, a, n(2), m)
				checkModPow(t, a, natural(r, r.Intn(3)), m)
			}
		}
	}
	for range 300 {
		checkModPow(t, number(r, r.Intn(12)), natural(r, r.Intn(4)), natural(r, 1+r.Intn(10)))
	}
}

func TestModPowOfLarge(t *testing.T) { // V6: the powers, and even the products, would be too large
	r := rand.New(rand.NewSource(7))
	for _, size := range []int{511, 512, 513, 600, 1023, 1024} {
		for range 4 {
			m := natural(r, size)
			checkModPow(t, number(r, size), n(2+r.Intn(9)), m)
			checkModPow(t, number(r, 1024), n(3), m)
			checkModPow(t, minus(n(1)), n(3), m)
		}
	}
	for _, m := range largeIntegers() {
		if !m.Neg {
			checkModPow(t, largest(), n(5), m)
			checkModPow(t, own(new(big.Int).Sub(oracle(m), big.NewInt(1))), n(7), m)
			checkModPow(t, n(2), n(33000), m)
		}
	}
	checkModPow(t, n(-3), largest(), n(1000003))
	checkModPow(t, n(3), largest(), n(1))
}

func TestModPowEstimates(t *testing.T) { // V6: by such a modulus the first elements of a quotient seem to be larger than they are
	r := rand.New(rand.NewSource(11))
	for range 200 {
		for _, first := range []api.Nat{{most, most, 0, 1 << 31}, {most, most, 1 << 31}, {most, 1 << 31}, {most, most, 1}, {0, 0, 0, 1 << 31}, {most, most, most, most}} {
			m := natural(r, r.Intn(8))
			m.Abs = append(m.Abs, first...)
			checkModPow(t, natural(r, len(m.Abs)), n(2+r.Intn(4)), m)
			checkModPow(t, minus(n(1+r.Intn(3))), n(2+r.Intn(4)), m)
		}
	}
}

func TestModPowErrors(t *testing.T) { // V6
	for _, a := range []api.Int{{}, n(1), n(-7), largest()} {
		for _, i := range []api.Int{{}, n(3), n(-1), n(-3), minus(largest())} {
			p, e := whole.ModPow(a, i, api.Int{})
			failed(t, "ModPow by 0", p, e, api.ErrDiv)
			p, e = whole.ModPow(a, i, n(-5))
			failed(t, "ModPow", p, e, api.ErrArg)
			if i.Neg {
				for _, m := range []api.Int{n(1), n(5), largest()} {
					p, e = whole.ModPow(a, i, m)
					failed(t, "ModPow", p, e, api.ErrArg)
				}
			}
		}
	}
}

// checkGcd checks a greatest common divisor and its factors, of which there is just one pair.
func checkGcd(t *testing.T, a, b api.Int) (g, x, y api.Int) {
	t.Helper()
	g, x, y, e := whole.Gcd(a, b)
	p, q := oracle(a), oracle(b)
	want := new(big.Int).GCD(nil, nil, new(big.Int).Abs(p), new(big.Int).Abs(q))
	same(t, "Gcd", g, e, want)
	if !whole.Valid(x) || !whole.Valid(y) {
		t.Fatalf("Gcd of %v and %v: factors %v and %v", p, q, x, y)
	}
	sum := new(big.Int).Mul(p, oracle(x))
	sum.Add(sum, new(big.Int).Mul(q, oracle(y)))
	same(t, "a x + b y", g, e, sum)
	if len(b.Abs) == 0 {
		same(t, "x for b = 0", x, e, big.NewInt(int64(p.Sign())))
		same(t, "y for b = 0", y, e, big.NewInt(0))
		return g, x, y
	}
	if x.Neg || oracle(x).CmpAbs(new(big.Int).Quo(q, want)) >= 0 {
		t.Fatalf("Gcd of %v and %v: x is %v", p, q, x)
	}
	return g, x, y
}

func TestGcd(t *testing.T) { // V7
	for a := -30; a <= 30; a++ {
		for b := -30; b <= 30; b++ {
			checkGcd(t, n(a), n(b))
		}
	}
	for _, a := range integers() {
		for _, b := range integers() {
			checkGcd(t, a, b)
		}
	}
	r := rand.New(rand.NewSource(8))
	for range 300 {
		c := number(r, 1+r.Intn(20))
		a, e := whole.Mul(number(r, 1+r.Intn(30)), c)
		b, f := whole.Mul(number(r, 1+r.Intn(30)), c)
		if e != api.OK || f != api.OK {
			t.Fatal(e, f)
		}
		checkGcd(t, a, b)
		checkGcd(t, a, c)
		checkGcd(t, c, a)
	}
}

func TestGcdOfLarge(t *testing.T) { // V7
	fibonacci := []*big.Int{big.NewInt(1), big.NewInt(1)} // they take the most steps
	for len(fibonacci) < 3000 {
		i := len(fibonacci)
		fibonacci = append(fibonacci, new(big.Int).Add(fibonacci[i-1], fibonacci[i-2]))
	}
	for _, i := range []int{40, 90, 93, 94, 95, 186, 400, 2999} {
		a, b := own(fibonacci[i]), own(fibonacci[i-1])
		checkGcd(t, a, b)
		checkGcd(t, b, minus(a))
		checkGcd(t, a, own(fibonacci[i/2]))
	}
	r := rand.New(rand.NewSource(9))
	large := append(largeIntegers(), number(r, 1024), number(r, 1023), number(r, 700), n(6), n(-1), api.Int{})
	for i, a := range large {
		for _, b := range []api.Int{large[(i+1)%len(large)], large[(i+5)%len(large)], n(35), a} {
			checkGcd(t, a, b)
			checkGcd(t, b, a)
		}
	}
}

// checkInverse checks an inverse, of which there is at most one.
func checkInverse(t *testing.T, a, m api.Int) {
	t.Helper()
	x, e := whole.Inverse(a, m)
	p, q := oracle(a), oracle(m)
	if new(big.Int).GCD(nil, nil, new(big.Int).Abs(p), q).Cmp(big.NewInt(1)) != 0 {
		failed(t, "Inverse", x, e, api.ErrNone)
		return
	}
	want := new(big.Int)
	if q.Cmp(big.NewInt(1)) != 0 {
		want.ModInverse(p, q)
	}
	same(t, "Inverse", x, e, want)
}

func TestInverse(t *testing.T) { // V8
	for a := -25; a <= 25; a++ {
		for m := 1; m <= 25; m++ {
			checkInverse(t, n(a), n(m))
		}
	}
	r := rand.New(rand.NewSource(10))
	for range 300 {
		checkInverse(t, number(r, r.Intn(12)), natural(r, 1+r.Intn(10)))
	}
	checkInverse(t, largest(), powerOfTwo(maxBits-1))
	checkInverse(t, minus(largest()), near(maxBits, -2))
	checkInverse(t, n(3), largest())
}

func TestInverseErrors(t *testing.T) { // V8
	for _, a := range []api.Int{{}, n(1), n(-3), largest()} {
		x, e := whole.Inverse(a, api.Int{})
		failed(t, "Inverse by 0", x, e, api.ErrDiv)
		for _, m := range []api.Int{n(-1), n(-7), minus(largest())} {
			x, e = whole.Inverse(a, m)
			failed(t, "Inverse", x, e, api.ErrArg)
		}
	}
}

func TestWrap(t *testing.T) { // V9
	for _, a := range append(integers(), largeIntegers()...) {
		for _, size := range []int{1, 2, 3, 7, 8, 9, 16, 31, 32, 33, 63, 64, 65, 95, 96, 97, 1000, 4064, 4095, 4096} {
			power := new(big.Int).Lsh(big.NewInt(1), uint(size))
			want := new(big.Int).Mod(oracle(a), power)
			x, e := whole.Wrap(a, size, false)
			same(t, "Wrap", x, e, want)
			if want.Bit(size-1) == 1 {
				want.Sub(want, power)
			}
			x, e = whole.Wrap(a, size, true)
			same(t, "Wrap with a sign", x, e, want)
		}
	}
	for _, a := range []api.Int{near(4096, -1), powerOfTwo(4096), near(4095, -1), powerOfTwo(4095)} {
		for _, b := range []api.Int{a, minus(a)} {
			x, e := whole.Wrap(b, 4096, false)
			same(t, "Wrap", x, e, new(big.Int).Mod(oracle(b), oracle(powerOfTwo(4096))))
		}
	}
	x, e := whole.Wrap(powerOfTwo(4095), 4096, true)
	same(t, "Wrap", x, e, new(big.Int).Neg(oracle(powerOfTwo(4095))))
	for _, size := range []int{math.MinInt, -1, 0, 4097, math.MaxInt} {
		for _, signed := range []bool{false, true} {
			for _, a := range []api.Int{{}, n(1), n(-1)} {
				x, e := whole.Wrap(a, size, signed)
				failed(t, "Wrap", x, e, api.ErrArg)
			}
		}
	}
}

func TestBits(t *testing.T) { // V10
	list := append(integers(), largeIntegers()...)
	for _, a := range list {
		x := oracle(a)
		opposite, e := whole.Not(a)
		same(t, "Not", opposite, e, new(big.Int).Not(x))
		for _, b := range list {
			y := oracle(b)
			both, e := whole.Bits(a, b, api.BiAnd)
			same(t, "And", both, e, new(big.Int).And(x, y))
			any, e := whole.Bits(a, b, api.BiOr)
			same(t, "Or", any, e, new(big.Int).Or(x, y))
			one, e := whole.Bits(a, b, api.BiXor)
			same(t, "Xor", one, e, new(big.Int).Xor(x, y))
		}
	}
	for _, op := range []int{0, 4, -1, math.MinInt, math.MaxInt} {
		for _, a := range []api.Int{{}, n(5), largest()} {
			x, e := whole.Bits(a, n(3), op)
			failed(t, "Bits", x, e, api.ErrArg)
		}
	}
}

func TestBitsLimit(t *testing.T) { // V10: -2^32768 is too large
	x, e := whole.Not(largest())
	failed(t, "Not", x, e, api.ErrLimit)
	x, e = whole.Bits(minus(largest()), minus(near(maxBits, -2)), api.BiAnd)
	failed(t, "And", x, e, api.ErrLimit)
	x, e = whole.Bits(largest(), n(-1), api.BiXor)
	failed(t, "Xor", x, e, api.ErrLimit)
	x, e = whole.Bits(largest(), n(-1), api.BiOr)
	same(t, "Or", x, e, big.NewInt(-1))
	x, e = whole.Not(minus(largest()))
	same(t, "Not", x, e, oracle(near(maxBits, -2)))
}

func TestShift(t *testing.T) { // V10
	for _, a := range append(integers(), largeIntegers()...) {
		x := oracle(a)
		for _, i := range []int{0, 1, 2, 3, 31, 32, 33, 63, 64, 100, 1000, 32700, 32735, 32736, 32766, 32767, 32768, 32769, 40000} {
			s, e := whole.Shift(a, i)
			same(t, "Shift to the left", s, e, new(big.Int).Lsh(x, uint(i)))
			s, e = whole.Shift(a, -i)
			same(t, "Shift to the right", s, e, new(big.Int).Rsh(x, uint(i)))
		}
		for _, i := range []int{1 << 20, 1 << 40, math.MaxInt - 31, math.MaxInt} {
			s, e := whole.Shift(a, i)
			if len(a.Abs) == 0 {
				same(t, "Shift of 0", s, e, x)
			} else {
				failed(t, "Shift to the left", s, e, api.ErrLimit)
			}
			for _, k := range []int{-i, -i - 1} {
				s, e = whole.Shift(a, k)
				same(t, "Shift to the right", s, e, big.NewInt(int64(min(x.Sign(), 0))))
			}
		}
	}
}

// checkText checks both texts of an integer by package big.
func checkText(t *testing.T, a api.Int, base int) {
	t.Helper()
	small := oracle(a).Text(base)
	for upper, want := range map[bool]string{false: small, true: strings.ToUpper(small)} {
		if s, e := whole.Text(a, base, upper); s != want || e != api.OK {
			t.Errorf("Text to the base %d: %s, error %d, not %s", base, s, e, want)
		}
	}
}

func TestText(t *testing.T) { // V11
	for base := 2; base <= 36; base++ {
		for _, a := range integers() {
			checkText(t, a, base)
		}
		checkText(t, largest(), base)
		checkText(t, minus(powerOfTwo(maxBits-1)), base)
	}
	for _, base := range wrongBases() {
		for _, a := range []api.Int{{}, n(1), n(-255)} {
			for _, upper := range []bool{false, true} {
				if s, e := whole.Text(a, base, upper); s != "" || e != api.ErrArg {
					t.Errorf("Text to the base %d: %s, error %d", base, s, e)
				}
			}
		}
	}
}

// wrongBases returns what is no base.
func wrongBases() []int { return []int{math.MinInt, -10, -1, 0, 1, 37, 256, math.MaxInt} }

func TestParse(t *testing.T) { // V11
	for _, a := range append(integers(), near(13000, -1), near(13000, 1)) {
		x := oracle(a)
		for base := 2; base <= 36; base++ {
			text := new(big.Int).Abs(x).Text(base)
			for _, digits := range []string{text, strings.ToUpper(text), "0" + text, strings.Repeat("0", 40) + text, strings.Replace(strings.ToUpper(text), "B", "b", 1)} {
				for _, sign := range []string{"", "+", "-"} {
					want := new(big.Int).Abs(x)
					if sign == "-" {
						want.Neg(want)
					}
					got, e, at := whole.Parse(sign+digits, base)
					same(t, "Parse of "+sign+digits, got, e, want)
					if at != 0 {
						t.Errorf("Parse of %s: offset %d", sign+digits, at)
					}
				}
			}
		}
	}
}

// checkParse checks the error of Parse, and its offset.
func checkParse(t *testing.T, s string, base int, want api.Errno, offset int) {
	t.Helper()
	a, e, at := whole.Parse(s, base)
	failed(t, "Parse", a, e, want)
	if at != offset {
		t.Errorf("Parse of %.40q to the base %d: offset %d, not %d", s, base, at, offset)
	}
}

func TestParseForm(t *testing.T) { // V11
	for _, c := range []struct {
		s    string
		base int
		at   int
	}{
		{"", 10, 0}, {"-", 10, 1}, {"+", 10, 1}, {"--1", 10, 1}, {"+-1", 10, 1}, {"-+1", 10, 1}, {"1-", 10, 1}, {"1+1", 10, 1},
		{" 1", 10, 0}, {"1 ", 10, 1}, {"- 1", 10, 1}, {"1 2", 10, 1}, {"1\n", 10, 1}, {"\x00", 10, 0}, {"1\x00", 10, 1}, {"12_3", 10, 2}, {"1'2", 10, 1}, {"1.5", 10, 1},
		{"0x1", 10, 1}, {"0x1", 16, 1}, {"0b1", 2, 1}, {"-0x", 16, 2}, {"0b1", 16, -1}, {"10u", 10, 2}, {"10L", 10, 2},
		{"2", 2, 0}, {"12", 2, 1}, {"1012", 2, 3}, {"8", 8, 0}, {"a", 10, 0}, {"A", 10, 0}, {"1a", 10, 1}, {"g", 16, 0}, {"fG", 16, 1}, {"-fFg", 16, 3}, {"z", 35, 0}, {"yZ", 35, 1}, {"b", 11, 0}, {"aB", 11, 1},
		{"/", 36, 0}, {":", 36, 0}, {"@", 36, 0}, {"[", 36, 0}, {"`", 36, 0}, {"{", 36, 0}, {"9:", 36, 1}, {"z{", 36, 1}, {"Z[", 36, 1}, {"1é", 36, 1}, {"٣", 10, 0}, {"1\xff", 36, 1}, {"\x80", 36, 0},
		{strings.Repeat("0", 19999) + "x", 10, 19999}, {strings.Repeat("9", 15000) + "x", 10, 15000}, {strings.Repeat("z", 19999) + "!", 36, 19999}, {strings.Repeat("-", 20000), 10, 1},
	} {
		if c.at < 0 {
			if a, e, at := whole.Parse(c.s, c.base); e != api.OK || at != 0 || !equalInts(a, n(0xb1)) {
				t.Errorf("Parse of %q: %v, error %d at %d", c.s, a, e, at)
			}
			continue
		}
		checkParse(t, c.s, c.base, api.ErrForm, c.at)
	}
}

func TestParseErrors(t *testing.T) { // V11: the order of errors, and both limits
	for _, base := range wrongBases() {
		for _, s := range []string{"", "1", "x", "-", strings.Repeat("1", 20001)} {
			checkParse(t, s, base, api.ErrArg, 0)
		}
	}
	for _, s := range []string{strings.Repeat("0", 20001), strings.Repeat("1", 20001), strings.Repeat("x", 20001), strings.Repeat("1", 30000) + "x"} {
		checkParse(t, s, 10, api.ErrLimit, 0)
		checkParse(t, s, 2, api.ErrLimit, 0)
	}
	for _, s := range []string{strings.Repeat("9", 20000), "-1" + strings.Repeat("0", 19998)} {
		checkParse(t, s, 10, api.ErrLimit, 0)
		checkParse(t, s, 36, api.ErrLimit, 0)
	}
	a, e, at := whole.Parse(strings.Repeat("0", 19999)+"7", 10)
	equal(t, "Parse of 20000 bytes", a, n(7))
	a, f, to := whole.Parse("-"+strings.Repeat("0", 19999), 10)
	equal(t, "Parse of 20000 bytes", a, n(0))
	if e != api.OK || f != api.OK || at != 0 || to != 0 {
		t.Error(e, f, at, to)
	}
	a, e, _ = whole.Parse(strings.Repeat("1", 20000), 2)
	same(t, "Parse of 20000 bits", a, e, oracle(near(20000, -1)))
	for _, base := range []int{4, 8, 10, 16, 35, 36} { // the greatest integer, and the next one
		for _, sign := range []string{"", "-"} {
			x := oracle(largest())
			last, e, _ := whole.Parse(sign+x.Text(base), base)
			want := largest()
			if sign != "" {
				want = minus(want)
			}
			same(t, "Parse", last, e, oracle(want))
			checkParse(t, sign+x.Add(x, big.NewInt(1)).Text(base), base, api.ErrLimit, 0)
		}
	}
}
