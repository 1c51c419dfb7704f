package nat_test

import (
	"math"
	"math/big"
	"math/bits"
	"slices"
	"strings"
	"testing"

	"soroban/api"
	"soroban/nat"
)

func TestValid(t *testing.T) { // P1.1, and the terms
	for _, a := range invalid() {
		if nat.Valid(a) {
			t.Errorf("Valid of %d elements", len(a))
		}
	}
	for _, a := range append(numbers(), largest(), powerOfTwo(maxBits-1), filled(1024, 1)) {
		if !nat.Valid(a) {
			t.Errorf("not Valid: %v", a)
		}
	}
}

func TestWords(t *testing.T) { // P1.1
	for _, n := range []uint64{0, 1, 9, most - 1, most, most + 1, 1 << 63, math.MaxUint64 - 1, math.MaxUint64} {
		a := nat.FromUint(n)
		same(t, "FromUint", a, api.OK, new(big.Int).SetUint64(n))
		if u, e := nat.ToUint(a); u != n || e != api.OK {
			t.Errorf("ToUint of %d: %d, error %d", n, u, e)
		}
	}
	for _, a := range []api.Nat{{0, 0, 1}, {most, most, most}, largest()} {
		if u, e := nat.ToUint(a); u != 0 || e != api.ErrRange {
			t.Errorf("ToUint of %v: %d, error %d", a, u, e)
		}
	}
}

func TestCmp(t *testing.T) { // P1.1
	list := append(numbers(), largest(), powerOfTwo(maxBits-1))
	for _, a := range list {
		for _, b := range list {
			if c, e := nat.Cmp(a, b); c != oracle(a).Cmp(oracle(b)) || e != api.OK {
				t.Errorf("Cmp of %v and %v: %d, error %d", a, b, c, e)
			}
		}
	}
}

func TestBitsAndZeros(t *testing.T) { // P1.1
	for _, a := range append(numbers(), largest(), powerOfTwo(maxBits-1), api.Nat{0, 48}) {
		x := oracle(a)
		if n, e := nat.Bits(a); n != x.BitLen() || e != api.OK {
			t.Errorf("Bits of %v: %d, error %d", a, n, e)
		}
		if n, e := nat.Zeros(a); n != int(x.TrailingZeroBits()) || e != api.OK {
			t.Errorf("Zeros of %v: %d, error %d", a, n, e)
		}
	}
}

func TestAddAndSub(t *testing.T) { // P1.2
	list := append(numbers(), largest(), powerOfTwo(maxBits-1), filled(1023, most), append(make(api.Nat, 1023), most))
	for _, a := range list {
		for _, b := range list {
			x, y := oracle(a), oracle(b)
			s, e := nat.Add(a, b)
			same(t, "Add", s, e, new(big.Int).Add(x, y))
			d, e := nat.Sub(a, b)
			if x.Cmp(y) < 0 {
				failed(t, "Sub", d, e, api.ErrRange)
			} else {
				same(t, "Sub", d, e, new(big.Int).Sub(x, y))
			}
		}
	}
}

func TestMul(t *testing.T) { // P1.3
	list := append(numbers(), largest(), filled(512, most), filled(513, most), powerOfTwo(32*511), powerOfTwo(32*512), powerOfTwo(32*512-1), powerOfTwo(32*513-1))
	for _, a := range list {
		for _, b := range list {
			p, e := nat.Mul(a, b)
			same(t, "Mul", p, e, new(big.Int).Mul(oracle(a), oracle(b)))
		}
	}
}

func TestPow(t *testing.T) { // P1.3
	for _, a := range numbers() {
		for _, n := range []int{0, 1, 2, 3, 4, 5, 7, 8, 31, 100} {
			p, e := nat.Pow(a, n)
			same(t, "Pow", p, e, new(big.Int).Exp(oracle(a), big.NewInt(int64(n)), nil))
		}
		for _, n := range []int{-1, -2, math.MinInt} {
			p, e := nat.Pow(a, n)
			failed(t, "Pow", p, e, api.ErrArg)
		}
		if len(a) > 0 && a[0] > 1 || len(a) > 1 {
			for _, n := range []int{maxBits, maxBits + 1, 1 << 32, 1 << 62, math.MaxInt} {
				p, e := nat.Pow(a, n)
				failed(t, "Pow", p, e, api.ErrLimit)
			}
		}
	}
	for _, n := range []int{1, 2, 1 << 40, math.MaxInt} {
		p, e := nat.Pow(nil, n)
		same(t, "Pow of 0", p, e, big.NewInt(0))
		p, e = nat.Pow(api.Nat{1}, n)
		same(t, "Pow of 1", p, e, big.NewInt(1))
	}
}

func TestPowLimit(t *testing.T) { // P1.3: the last power that is not too large, and the next one
	for _, a := range []api.Nat{{2}, {3}, {4}, {7}, {255}, {256}, {most}, {0, 1}, {1, 1}, {most, most}, filled(511, most), filled(512, most), powerOfTwo(maxBits / 2), largest()} {
		x, p, n := oracle(a), big.NewInt(1), 0
		for p.BitLen() <= maxBits {
			p.Mul(p, x)
			n++
		}
		large, e := nat.Pow(a, n)
		failed(t, "Pow", large, e, api.ErrLimit)
		last, e := nat.Pow(a, n-1)
		same(t, "Pow", last, e, p.Quo(p, x))
	}
}

func TestDiv(t *testing.T) { // P1.4
	list := append(numbers(), largest(), powerOfTwo(maxBits-1), filled(512, most))
	for _, a := range list {
		for _, b := range list {
			q, r, e := nat.Div(a, b)
			if len(b) == 0 {
				failed(t, "Div by 0", q, e, api.ErrDiv)
				failed(t, "Div by 0", r, e, api.ErrDiv)
				continue
			}
			x, y := new(big.Int).QuoRem(oracle(a), oracle(b), new(big.Int))
			same(t, "Div", q, e, x)
			same(t, "Div", r, e, y)
		}
	}
}

func TestGcd(t *testing.T) { // P1.4
	fibonacci := []*big.Int{big.NewInt(1), big.NewInt(1)} // they take the most steps
	for len(fibonacci) < 400 {
		n := len(fibonacci)
		fibonacci = append(fibonacci, new(big.Int).Add(fibonacci[n-1], fibonacci[n-2]))
	}
	list := append(numbers(), api.Nat{12}, api.Nat{18}, largest(), powerOfTwo(maxBits-1), own(fibonacci[399]), own(fibonacci[398]), own(fibonacci[199]))
	for _, a := range list {
		for _, b := range list {
			d, e := nat.Gcd(a, b)
			same(t, "Gcd", d, e, new(big.Int).GCD(nil, nil, oracle(a), oracle(b)))
		}
	}
}

// checkRoot checks a root by what a root is.
func checkRoot(t *testing.T, a api.Nat, n int) {
	t.Helper()
	root, rest, e := nat.Root(a, n)
	if e != api.OK || !nat.Valid(root) || !nat.Valid(rest) {
		t.Fatalf("Root %d of %v: error %d", n, a, e)
	}
	x, k := oracle(root), big.NewInt(int64(n))
	left := new(big.Int).Sub(oracle(a), new(big.Int).Exp(x, k, nil))
	if left.Sign() < 0 || left.Cmp(oracle(rest)) != 0 {
		t.Fatalf("Root %d of %v: %v and %v", n, a, root, rest)
	}
	x.Add(x, big.NewInt(1))
	if x.Exp(x, k, nil).Cmp(oracle(a)) <= 0 {
		t.Fatalf("Root %d of %v: %v is too small", n, a, root)
	}
}

func TestRoot(t *testing.T) { // P1.4
	for _, a := range append(numbers(), api.Nat{99}, api.Nat{1000}, largest(), powerOfTwo(maxBits-1)) {
		for _, n := range []int{1, 2, 3, 4, 5, 7, 9, 10, 31, 32, 33, 64, 100, 1000, 3001, 16384, 32767, 32768} {
			checkRoot(t, a, n)
		}
		for _, n := range []int{1 << 20, 1 << 40, math.MaxInt} {
			root, rest, e := nat.Root(a, n)
			if len(a) == 0 {
				same(t, "Root of 0", root, e, big.NewInt(0))
				same(t, "Root of 0", rest, e, big.NewInt(0))
				continue
			}
			same(t, "Root", root, e, big.NewInt(1))
			same(t, "Root", rest, e, new(big.Int).Sub(oracle(a), big.NewInt(1)))
		}
		for _, n := range []int{0, -1, math.MinInt} {
			root, rest, e := nat.Root(a, n)
			failed(t, "Root", root, e, api.ErrArg)
			failed(t, "Root", rest, e, api.ErrArg)
		}
	}
}

func TestShifts(t *testing.T) { // P1.5
	for _, a := range append(numbers(), largest(), powerOfTwo(maxBits-1), powerOfTwo(maxBits-32), powerOfTwo(maxBits-33)) {
		x := oracle(a)
		for _, n := range []int{0, 1, 2, 31, 32, 33, 63, 64, 100, 1000, 32700, 32735, 32736, 32767, 32768, 32769} {
			s, e := nat.Shl(a, n)
			same(t, "Shl", s, e, new(big.Int).Lsh(x, uint(n)))
			s, e = nat.Shr(a, n)
			same(t, "Shr", s, e, new(big.Int).Rsh(x, uint(n)))
		}
		for _, n := range []int{1 << 20, 1 << 40, math.MaxInt - 31, math.MaxInt} {
			s, e := nat.Shl(a, n)
			if len(a) == 0 {
				same(t, "Shl of 0", s, e, x)
			} else {
				failed(t, "Shl", s, e, api.ErrLimit)
			}
			s, e = nat.Shr(a, n)
			same(t, "Shr", s, e, big.NewInt(0))
		}
		for _, n := range []int{-1, -32, math.MinInt} {
			s, e := nat.Shl(a, n)
			failed(t, "Shl", s, e, api.ErrArg)
			s, e = nat.Shr(a, n)
			failed(t, "Shr", s, e, api.ErrArg)
		}
	}
}

func TestShlLimit(t *testing.T) { // P1.5: the last shift that is not too large, and the next one
	for _, a := range numbers() {
		if len(a) == 0 {
			continue
		}
		n := maxBits - 32*len(a) + bits.LeadingZeros32(a[len(a)-1])
		s, e := nat.Shl(a, n)
		same(t, "Shl", s, e, new(big.Int).Lsh(oracle(a), uint(n)))
		s, e = nat.Shl(a, n+1)
		failed(t, "Shl", s, e, api.ErrLimit)
	}
}

func TestTexts(t *testing.T) { // P1.6
	for _, a := range append(numbers(), largest(), powerOfTwo(maxBits-1)) {
		want := oracle(a).String()
		if s, e := nat.Text(a); s != want || e != api.OK {
			t.Errorf("Text: %s, error %d, not %s", s, e, want)
		}
		n, e := nat.Parse(want)
		same(t, "Parse", n, e, oracle(a))
	}
	for n := range 40 { // zeros in the middle of a text and at its end
		for _, s := range []string{"1" + strings.Repeat("0", n), strings.Repeat("9", n+1), "1" + strings.Repeat("0", n) + "1"} {
			x, _ := new(big.Int).SetString(s, 10)
			a, e := nat.Parse(s)
			same(t, "Parse of "+s, a, e, x)
			if text, e := nat.Text(a); text != s || e != api.OK {
				t.Errorf("Text: %s, error %d, not %s", text, e, s)
			}
		}
	}
}

func TestWrongTexts(t *testing.T) { // P1.6
	for _, s := range []string{"", "00", "007", "01", "+1", "-1", "-0", " 1", "1 ", "1\n", "1_000", "1.0", "0x10", "a", "1a", "a1", "/", ":", "1/", "1:", "\x00", "1\x00", "٣", "１", strings.Repeat("0", 20000), strings.Repeat("9", 12000) + "x", strings.Repeat("x", 20000)} {
		a, e := nat.Parse(s)
		failed(t, "Parse", a, e, api.ErrForm)
	}
	for _, s := range []string{strings.Repeat("1", 20000), strings.Repeat("x", 20001), strings.Repeat("0", 20001), strings.Repeat("9", 20001)} {
		a, e := nat.Parse(s)
		failed(t, "Parse", a, e, api.ErrLimit)
	}
}

func TestParseLimit(t *testing.T) { // P1.6: the greatest number, and the next one
	x := oracle(largest())
	a, e := nat.Parse(x.String())
	same(t, "Parse", a, e, x)
	a, e = nat.Parse(x.Add(x, big.NewInt(1)).String())
	failed(t, "Parse", a, e, api.ErrLimit)
}

func TestWrongCuts(t *testing.T) { // P1.7
	for _, cut := range []int{math.MinInt, -1, 0, 1, 1025, math.MaxInt} {
		for _, a := range append(numbers(), largest()) {
			for _, b := range []api.Nat{nil, {3}, largest()} { // ahead of ErrDiv, and of ErrLimit
				p, e := nat.Karatsuba(a, b, cut)
				failed(t, "Karatsuba", p, e, api.ErrArg)
				q, r, e := nat.Blocks(a, b, cut)
				failed(t, "Blocks", q, e, api.ErrArg)
				failed(t, "Blocks", r, e, api.ErrArg)
			}
		}
	}
}

func TestRoadErrors(t *testing.T) { // P1.7
	for name, road := range productRoads() {
		for _, c := range [][2]api.Nat{{largest(), {2}}, {{2}, largest()}, {largest(), largest()}, {filled(513, most), filled(512, most)}} {
			p, e := road(c[0], c[1])
			failed(t, name, p, e, api.ErrLimit)
		}
	}
	for name, road := range quotientRoads() {
		for _, a := range []api.Nat{nil, {1}, largest()} {
			q, r, e := road(a, nil)
			failed(t, name, q, e, api.ErrDiv)
			failed(t, name, r, e, api.ErrDiv)
		}
	}
}

func TestExamples(t *testing.T) {
	is := sure(t)
	equal(t, "Add", is(nat.Add(api.Nat{most}, api.Nat{1})), api.Nat{0, 1})
	equal(t, "Sub", is(nat.Sub(api.Nat{0, 1}, api.Nat{1})), api.Nat{4294967295})
	equal(t, "Mul", is(nat.Mul(api.Nat{4294967295}, api.Nat{4294967295})), api.Nat{1, 4294967294})
	equal(t, "Gcd", is(nat.Gcd(api.Nat{12}, api.Nat{18})), api.Nat{6})
	equal(t, "Parse", is(nat.Parse("4294967296")), api.Nat{0, 1})
	if s, _ := nat.Text(is(nat.Pow(api.Nat{2}, 100))); s != "1267650600228229401496703205376" {
		t.Error("Pow:", s)
	}
	q, r, e := nat.Div(nat.FromUint(math.MaxUint64), api.Nat{10})
	if n, _ := nat.ToUint(q); n != 1844674407370955161 || !slices.Equal(r, api.Nat{5}) || e != api.OK {
		t.Error("Div:", n, r, e)
	}
	for _, c := range []struct {
		a          uint32
		n          int
		root, rest api.Nat
	}{{99, 2, api.Nat{9}, api.Nat{18}}, {1000, 3, api.Nat{10}, nil}, {7, 9, api.Nat{1}, api.Nat{6}}} {
		root, rest, e := nat.Root(api.Nat{c.a}, c.n)
		if !slices.Equal(root, c.root) || !slices.Equal(rest, c.rest) || e != api.OK {
			t.Error("Root:", c, root, rest, e)
		}
	}
}
