package nat_test

import (
	"math/big"
	"math/rand"
	"slices"
	"testing"

	"soroban/api"
	"soroban/nat"
)

func TestRing(t *testing.T) { // P1.8
	is := sure(t)
	r := rand.New(rand.NewSource(8))
	one := api.Nat{1}
	for range 300 {
		a, b, c := number(r, r.Intn(90)), number(r, r.Intn(90)), number(r, r.Intn(90))
		ab, bc := is(nat.Add(a, b)), is(nat.Add(b, c))
		equal(t, "a + b", ab, is(nat.Add(b, a)))
		equal(t, "a + b + c", is(nat.Add(ab, c)), is(nat.Add(a, bc)))
		equal(t, "a b", is(nat.Mul(a, b)), is(nat.Mul(b, a)))
		equal(t, "a b c", is(nat.Mul(is(nat.Mul(a, b)), c)), is(nat.Mul(a, is(nat.Mul(b, c)))))
		equal(t, "a (b + c)", is(nat.Mul(a, bc)), is(nat.Add(is(nat.Mul(a, b)), is(nat.Mul(a, c)))))
		equal(t, "a + 0", is(nat.Add(a, nil)), a)
		equal(t, "0 + a", is(nat.Add(nil, a)), a)
		equal(t, "a 1", is(nat.Mul(a, one)), a)
		equal(t, "1 a", is(nat.Mul(one, a)), a)
		equal(t, "a 0", is(nat.Mul(a, nil)), nil)
		equal(t, "a - 0", is(nat.Sub(a, nil)), a)
		equal(t, "a + b - b", is(nat.Sub(ab, b)), a)
		equal(t, "a + b - a", is(nat.Sub(ab, a)), b)
	}
}

// order returns Cmp of two valid numbers.
func order(t *testing.T, a, b api.Nat) int {
	t.Helper()
	c, e := nat.Cmp(a, b)
	if e != api.OK || c < -1 || c > 1 {
		t.Fatalf("Cmp: %d, error %d", c, e)
	}
	return c
}

func TestOrder(t *testing.T) { // P1.9
	is := sure(t)
	list := numbers()
	slices.SortFunc(list, func(a, b api.Nat) int { return order(t, a, b) })
	r := rand.New(rand.NewSource(9))
	for i, a := range list {
		for j, b := range list {
			c := order(t, a, b)
			if c != -order(t, b, a) || (c == 0) != slices.Equal(a, b) || i < j && c > 0 {
				t.Fatalf("Cmp of %v and %v: %d", a, b, c)
			}
			d := number(r, 1+r.Intn(5))
			if order(t, is(nat.Add(a, d)), is(nat.Add(b, d))) != c {
				t.Fatal("sums do not keep the order")
			}
			if order(t, is(nat.Mul(a, d)), is(nat.Mul(b, d))) != c {
				t.Fatal("products do not keep the order")
			}
		}
	}
}

func TestDivision(t *testing.T) { // P1.10
	is := sure(t)
	rnd := rand.New(rand.NewSource(10))
	for range 400 {
		b := number(rnd, 1+rnd.Intn(200))
		a, small := number(rnd, rnd.Intn(200)), number(rnd, rnd.Intn(len(b)+1))
		q, r, e := nat.Div(a, b)
		if e != api.OK || order(t, r, b) >= 0 {
			t.Fatalf("Div of %v and %v: rest %v, error %d", a, b, r, e)
		}
		equal(t, "q b + r", is(nat.Add(is(nat.Mul(q, b)), r)), a)
		if order(t, small, b) >= 0 {
			small = is(nat.Sub(b, api.Nat{1}))
		}
		for _, rest := range []api.Nat{small, nil, is(nat.Sub(b, api.Nat{1}))} {
			q, r, e = nat.Div(is(nat.Add(is(nat.Mul(a, b)), rest)), b)
			if e != api.OK {
				t.Fatal(e)
			}
			equal(t, "a of a b + r", q, a)
			equal(t, "r of a b + r", r, rest)
		}
	}
}

// pairs returns pairs of numbers for the roads: of like and of unlike lengths, and such for which an estimated element of a quotient is too large.
func pairs() [][2]api.Nat {
	r := rand.New(rand.NewSource(11))
	list := [][2]api.Nat{
		{{0, 0, 1 << 31, 1<<31 - 1}, {1, 0, 1 << 31}},
		{{3, 0, 1 << 31}, {1, 0, 1 << 29}},
		{{0, most - 1, 1 << 31}, {most, 1 << 31}},
		{{0, 0, 0, 1 << 31}, {most, most, 1 << 31}},
		{filled(1024, most), {most}},
		{filled(1024, most), filled(512, most)},
		{filled(1024, most), filled(1023, most)},
		{filled(1024, most), filled(1024, most)},
		{filled(1024, most), powerOfTwo(maxBits / 2)},
		{powerOfTwo(maxBits - 1), filled(500, most)},
		{powerOfTwo(maxBits - 1), powerOfTwo(32 * 700)},
		{filled(512, most), filled(512, most)},
	}
	lengths := []int{0, 1, 2, 3, 4, 5, 6, 7, 8, 15, 16, 17, 33, 63, 100, 129, 200}
	for _, n := range lengths {
		for _, m := range lengths {
			list = append(list, [2]api.Nat{number(r, n), number(r, m)})
		}
	}
	for range 40 { // a product less one, which is nearly a greater quotient
		a, b := number(r, 1+r.Intn(40)), number(r, 1+r.Intn(40))
		p := new(big.Int).Mul(oracle(a), oracle(b))
		list = append(list, [2]api.Nat{own(p), b}, [2]api.Nat{own(p.Sub(p, big.NewInt(1))), b})
	}
	for range 10 {
		list = append(list, [2]api.Nat{number(r, 300+r.Intn(212)), number(r, 300+r.Intn(212))})
	}
	return list
}

func TestRoads(t *testing.T) { // P1.7, P1.11
	products, quotients := productRoads(), quotientRoads()
	for _, c := range pairs() {
		a, b := c[0], c[1]
		product := new(big.Int).Mul(oracle(a), oracle(b))
		for name, road := range products {
			p, e := road(a, b)
			same(t, name, p, e, product)
		}
		if len(b) == 0 {
			continue
		}
		q, r := new(big.Int).QuoRem(oracle(a), oracle(b), new(big.Int))
		for name, road := range quotients {
			x, y, e := road(a, b)
			same(t, name, x, e, q)
			same(t, name, y, e, r)
		}
	}
}

func TestEveryCut(t *testing.T) { // P1.11
	r := rand.New(rand.NewSource(12))
	a, b := number(r, 260), number(r, 130)
	p, q, rest := oracle(a), oracle(a), new(big.Int)
	p.Mul(p, oracle(b))
	q.QuoRem(q, oracle(b), rest)
	for cut := 2; cut <= api.MaxLimbs; cut++ {
		x, e := nat.Karatsuba(a, b, cut)
		same(t, "Karatsuba", x, e, p)
		x, y, e := nat.Blocks(a, b, cut)
		same(t, "Blocks", x, e, q)
		same(t, "Blocks", y, e, rest)
	}
}

func TestPowersAndRoots(t *testing.T) { // P1.12
	is := sure(t)
	r := rand.New(rand.NewSource(13))
	for range 200 {
		a, b := number(r, r.Intn(12)), number(r, r.Intn(12))
		m, n := r.Intn(12), 1+r.Intn(12)
		an := is(nat.Pow(a, n))
		equal(t, "a^(m + n)", is(nat.Pow(a, m+n)), is(nat.Mul(is(nat.Pow(a, m)), an)))
		equal(t, "(a b)^n", is(nat.Pow(is(nat.Mul(a, b)), n)), is(nat.Mul(an, is(nat.Pow(b, n)))))
		root, rest, e := nat.Root(an, n)
		if e != api.OK {
			t.Fatal(e)
		}
		equal(t, "root of a^n", root, a)
		equal(t, "rest of a^n", rest, nil)
		checkRoot(t, an, n)
		checkRoot(t, is(nat.Add(an, api.Nat{1})), n)
		if len(an) > 0 {
			checkRoot(t, is(nat.Sub(an, api.Nat{1})), n)
		}
		checkRoot(t, b, n)
	}
	for _, n := range []int{2, 3, 5, 6, 17, 50, 100, 777, 2500, 20000} {
		checkRoot(t, number(r, 1024), n)
	}
}

// divides reports whether b is a multiple of a.
func divides(t *testing.T, a, b api.Nat) bool {
	t.Helper()
	_, r, e := nat.Div(b, a)
	if e != api.OK {
		t.Fatal(e)
	}
	return len(r) == 0
}

func TestDivisors(t *testing.T) { // P1.13
	is := sure(t)
	r := rand.New(rand.NewSource(14))
	for range 300 {
		a, b, c := number(r, 1+r.Intn(40)), number(r, r.Intn(40)), number(r, 1+r.Intn(20))
		d := is(nat.Gcd(a, b))
		ac, bc := is(nat.Mul(a, c)), is(nat.Mul(b, c))
		dc := is(nat.Gcd(ac, bc))
		if !divides(t, d, a) || !divides(t, d, b) || !divides(t, c, dc) {
			t.Fatalf("Gcd of %v and %v: %v", a, b, d)
		}
		equal(t, "Gcd of a c and b c", dc, is(nat.Mul(d, c)))
		equal(t, "Gcd of b and a", is(nat.Gcd(b, a)), d)
		equal(t, "Gcd of a and 0", is(nat.Gcd(a, nil)), a)
		equal(t, "Gcd of 0 and a", is(nat.Gcd(nil, a)), a)
	}
	for a := range uint64(40) { // each common divisor of small numbers
		for b := range uint64(40) {
			d := is(nat.Gcd(nat.FromUint(a), nat.FromUint(b)))
			for c := uint64(1); c < 40; c++ {
				if a%c == 0 && b%c == 0 && !divides(t, nat.FromUint(c), d) {
					t.Fatalf("Gcd of %d and %d: %v, no multiple of %d", a, b, d, c)
				}
			}
		}
	}
	equal(t, "Gcd of 0 and 0", is(nat.Gcd(nil, nil)), nil)
}

func TestBitsOfNumbers(t *testing.T) { // P1.14
	is := sure(t)
	r := rand.New(rand.NewSource(15))
	for range 300 {
		a, n := number(r, 1+r.Intn(60)), r.Intn(3000)
		two := is(nat.Pow(api.Nat{2}, n))
		left := is(nat.Shl(a, n))
		equal(t, "Shl", left, is(nat.Mul(a, two)))
		q, _, e := nat.Div(a, two)
		if e != api.OK {
			t.Fatal(e)
		}
		equal(t, "Shr", is(nat.Shr(a, n)), q)
		equal(t, "Shr of Shl", is(nat.Shr(left, n)), a)
		b, e := nat.Bits(a)
		if e != api.OK || order(t, is(nat.Pow(api.Nat{2}, b-1)), a) > 0 || order(t, a, is(nat.Pow(api.Nat{2}, b))) >= 0 {
			t.Fatalf("Bits of %v: %d, error %d", a, b, e)
		}
		z, e := nat.Zeros(left)
		odd := is(nat.Shr(left, z))
		if e != api.OK || z < n || odd[0]%2 == 0 {
			t.Fatalf("Zeros of %v: %d, error %d", left, z, e)
		}
		equal(t, "Shr by Zeros, and back", is(nat.Shl(odd, z)), left)
	}
	for _, f := range []func(api.Nat) (int, api.Errno){nat.Bits, nat.Zeros} {
		if n, e := f(nil); n != 0 || e != api.OK {
			t.Error("Bits or Zeros of 0:", n, e)
		}
	}
}

func TestTextsOfNumbers(t *testing.T) { // P1.15
	is := sure(t)
	r := rand.New(rand.NewSource(16))
	for range 200 {
		a := number(r, r.Intn(60))
		s, e := nat.Text(a)
		if e != api.OK {
			t.Fatal(e)
		}
		equal(t, "Parse of Text", is(nat.Parse(s)), a)
		if len(a) == 0 {
			continue
		}
		d := r.Intn(10)
		more := is(nat.Add(is(nat.Mul(a, api.Nat{10})), nat.FromUint(uint64(d))))
		longer := s + string(rune('0'+d))
		equal(t, "Parse of one digit more", is(nat.Parse(longer)), more)
		if text, e := nat.Text(more); text != longer || e != api.OK {
			t.Fatalf("Text: %s, error %d, not %s", text, e, longer)
		}
	}
	for n := range uint64(1200) {
		s, _ := nat.Text(nat.FromUint(n))
		if want := new(big.Int).SetUint64(n).String(); s != want {
			t.Fatalf("Text: %s, not %s", s, want)
		}
		equal(t, "Parse", is(nat.Parse(s)), nat.FromUint(n))
	}
}
