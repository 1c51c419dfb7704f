package whole_test

import (
	"math/big"
	"math/rand"
	"slices"
	"strings"
	"testing"

	"soroban/api"
	"soroban/whole"
)

func TestRing(t *testing.T) { // P2.2
	is := sure(t)
	r := rand.New(rand.NewSource(12))
	for range 400 {
		a, b, c := number(r, r.Intn(60)), number(r, r.Intn(60)), number(r, r.Intn(60))
		ab, bc := is(whole.Add(a, b)), is(whole.Add(b, c))
		equal(t, "a + b", ab, is(whole.Add(b, a)))
		equal(t, "a + b + c", is(whole.Add(ab, c)), is(whole.Add(a, bc)))
		equal(t, "a b", is(whole.Mul(a, b)), is(whole.Mul(b, a)))
		equal(t, "a b c", is(whole.Mul(is(whole.Mul(a, b)), c)), is(whole.Mul(a, is(whole.Mul(b, c)))))
		equal(t, "a (b + c)", is(whole.Mul(a, bc)), is(whole.Add(is(whole.Mul(a, b)), is(whole.Mul(a, c)))))
		equal(t, "a + -a", is(whole.Add(a, is(whole.Neg(a)))), n(0))
		equal(t, "a - b", is(whole.Sub(a, b)), is(whole.Add(a, is(whole.Neg(b)))))
		equal(t, "a + b - b", is(whole.Sub(ab, b)), a)
		equal(t, "a + 0", is(whole.Add(a, n(0))), a)
		equal(t, "a 1", is(whole.Mul(a, n(1))), a)
		equal(t, "a -1", is(whole.Mul(a, n(-1))), is(whole.Neg(a)))
		equal(t, "a 0", is(whole.Mul(a, n(0))), n(0))
	}
}

func TestOrder(t *testing.T) { // P2.2
	is := sure(t)
	list := integers()
	slices.SortFunc(list, func(a, b api.Int) int { return order(t, a, b) })
	r := rand.New(rand.NewSource(13))
	for i, a := range list {
		for j, b := range list {
			c := order(t, a, b)
			if c != -order(t, b, a) || (c == 0) != equalInts(a, b) || i < j && c > 0 {
				t.Fatalf("Cmp of %v and %v: %d", a, b, c)
			}
			if s, e := whole.Sign(is(whole.Sub(a, b))); s != c || e != api.OK {
				t.Fatalf("Cmp of %v and %v: %d", a, b, c)
			}
			d := number(r, r.Intn(6))
			if order(t, is(whole.Add(a, d)), is(whole.Add(b, d))) != c {
				t.Fatal("sums do not keep the order")
			}
		}
	}
}

// signOf returns the Sign of an integer.
func signOf(a api.Int) int { return oracle(a).Sign() }

// checkDivisions checks what the four divisions promise, without calculating quotients otherwise.
func checkDivisions(t *testing.T, a, b api.Int) {
	t.Helper()
	is := sure(t)
	size := api.Int{Abs: b.Abs}
	least, greatest := api.Int{}, api.Int{}
	for how := api.DvZero; how <= api.DvNear; how++ {
		q, r := divided(t, a, b, how)
		sum := new(big.Int).Mul(oracle(q), oracle(b)) // it may be too large before the rest is added
		same(t, "q b + r", a, api.OK, sum.Add(sum, oracle(r)))
		rest := api.Int{Abs: r.Abs}
		switch {
		case order(t, rest, size) >= 0:
			t.Fatalf("%d: rest %v", how, r)
		case how == api.DvZero && signOf(r)*signOf(a) < 0, how == api.DvDown && signOf(r)*signOf(b) < 0, how == api.DvEuclid && r.Neg:
			t.Fatalf("%d: rest %v", how, r)
		case how == api.DvNear:
			c := order(t, rest, is(whole.Sub(size, rest)))
			odd := len(q.Abs) > 0 && q.Abs[0]%2 == 1
			if c > 0 || c == 0 && odd {
				t.Fatalf("nearest: quotient %v, rest %v", q, r)
			}
		}
		if how == api.DvZero || order(t, q, least) < 0 {
			least = q
		}
		if how == api.DvZero || order(t, q, greatest) > 0 {
			greatest = q
		}
	}
	if order(t, is(whole.Sub(greatest, least)), n(1)) > 0 {
		t.Fatalf("quotients %v and %v", least, greatest)
	}
}

func TestDivisions(t *testing.T) { // P2.3
	for a := -25; a <= 25; a++ {
		for b := -8; b <= 8; b++ {
			if b != 0 {
				checkDivisions(t, n(a), n(b))
			}
		}
	}
	r := rand.New(rand.NewSource(14))
	for range 400 {
		checkDivisions(t, number(r, r.Intn(40)), number(r, 1+r.Intn(20)))
	}
	for _, a := range largeIntegers() {
		for _, b := range largeIntegers() {
			checkDivisions(t, a, b)
		}
	}
}

func TestDivisors(t *testing.T) { // P2.4
	is := sure(t)
	r := rand.New(rand.NewSource(15))
	for range 200 {
		a, b := number(r, 1+r.Intn(20)), number(r, 1+r.Intn(20))
		g, x, y := checkGcd(t, a, b)
		_, p := divided(t, a, g, api.DvZero)
		_, q := divided(t, b, g, api.DvZero)
		if len(p.Abs) > 0 || len(q.Abs) > 0 {
			t.Fatalf("Gcd of %v and %v: %v", a, b, g)
		}
		equal(t, "a x + b y", is(whole.Add(is(whole.Mul(a, x)), is(whole.Mul(b, y)))), g)
	}
	for a := -40; a <= 40; a++ { // each common divisor of small integers
		for b := -40; b <= 40; b++ {
			g, _, _ := checkGcd(t, n(a), n(b))
			for c := 1; c <= 40; c++ {
				if a%c == 0 && b%c == 0 && oracle(g).Int64()%int64(c) != 0 {
					t.Fatalf("Gcd of %d and %d: %v, no multiple of %d", a, b, g, c)
				}
			}
		}
	}
}

func TestInverses(t *testing.T) { // P2.4
	r := rand.New(rand.NewSource(16))
	found := 0
	for range 400 {
		a, m := number(r, r.Intn(10)), natural(r, 1+r.Intn(10))
		x, e := whole.Inverse(a, m)
		if e != api.OK {
			continue
		}
		found++
		again, e := whole.Inverse(x, m)
		_, rest := divided(t, a, m, api.DvEuclid)
		same(t, "Inverse of Inverse", again, e, oracle(rest))
	}
	if found < 50 {
		t.Fatalf("only %d have inverses", found)
	}
}

func TestPowers(t *testing.T) { // P2.5
	is := sure(t)
	r := rand.New(rand.NewSource(17))
	for range 300 {
		a, m := number(r, r.Intn(10)), natural(r, 1+r.Intn(10))
		i, k := r.Intn(20), r.Intn(20)
		p := is(whole.Pow(a, i+k))
		equal(t, "a^(i + k)", p, is(whole.Mul(is(whole.Pow(a, i)), is(whole.Pow(a, k)))))
		_, rest := divided(t, p, m, api.DvEuclid)
		equal(t, "ModPow", is(whole.ModPow(a, n(i+k), m)), rest)
	}
	for _, p := range []int{2, 3, 5, 7, 11, 13, 1<<31 - 1} { // Fermat
		for _, a := range append(integers(), largest()) {
			_, rest := divided(t, a, n(p), api.DvEuclid)
			equal(t, "a^p", is(whole.ModPow(a, n(p), n(p))), rest)
		}
	}
}

// bit returns a bit of an integer by what bits are: whether the quotient by 2^i, rounded down, is odd.
func bit(t *testing.T, a api.Int, i int) uint {
	t.Helper()
	q, _ := divided(t, a, powerOfTwo(i), api.DvDown)
	_, r := divided(t, q, n(2), api.DvEuclid)
	return uint(len(r.Abs))
}

func TestBitByBit(t *testing.T) { // P2.6
	is := sure(t)
	r := rand.New(rand.NewSource(18))
	list := []api.Int{n(0), n(1), n(-1), n(5), n(-4), near(32, 0), minus(near(32, 0)), near(64, -1), minus(near(64, 1))}
	for range 12 {
		list = append(list, number(r, 1+r.Intn(4)))
	}
	for _, a := range list {
		not, up, down := is(whole.Not(a)), is(whole.Shift(a, 37)), is(whole.Shift(a, -37))
		for i := range 170 {
			x := bit(t, a, i)
			if bit(t, not, i) != 1-x || bit(t, up, i+37) != x || i >= 37 && bit(t, down, i-37) != x || i < 37 && bit(t, up, i) != 0 {
				t.Fatalf("bit %d of %v: %v, %v, %v", i, a, not, up, down)
			}
		}
	}
	for i, a := range list {
		b := list[(i*7+3)%len(list)]
		and, or, xor := is(whole.Bits(a, b, api.BiAnd)), is(whole.Bits(a, b, api.BiOr)), is(whole.Bits(a, b, api.BiXor))
		for i := range 140 {
			x, y := bit(t, a, i), bit(t, b, i)
			if bit(t, and, i) != x&y || bit(t, or, i) != x|y || bit(t, xor, i) != x^y {
				t.Fatalf("bit %d of %v and %v: %v, %v, %v", i, a, b, and, or, xor)
			}
		}
	}
}

func TestLawsOfBits(t *testing.T) { // P2.6
	is := sure(t)
	r := rand.New(rand.NewSource(19))
	for range 400 {
		a, b := number(r, r.Intn(30)), number(r, r.Intn(30))
		and, or, xor := is(whole.Bits(a, b, api.BiAnd)), is(whole.Bits(a, b, api.BiOr)), is(whole.Bits(a, b, api.BiXor))
		equal(t, "And + Or", is(whole.Add(and, or)), is(whole.Add(a, b)))
		equal(t, "Or - And", is(whole.Sub(or, and)), xor)
		notA, notB := is(whole.Not(a)), is(whole.Not(b))
		equal(t, "Not of And", is(whole.Not(and)), is(whole.Bits(notA, notB, api.BiOr)))
		equal(t, "Not", notA, is(whole.Sub(is(whole.Neg(a)), n(1))))
		equal(t, "Not of Not", is(whole.Not(notA)), a)
		i := r.Intn(300)
		equal(t, "Shift to the left", is(whole.Shift(a, i)), is(whole.Mul(a, powerOfTwo(i))))
		q, _ := divided(t, a, powerOfTwo(i), api.DvDown)
		equal(t, "Shift to the right", is(whole.Shift(a, -i)), q)
	}
}

func TestWraps(t *testing.T) { // P2.6
	is := sure(t)
	r := rand.New(rand.NewSource(20))
	for range 400 {
		a, b, size, signed := number(r, r.Intn(30)), number(r, r.Intn(30)), 1+r.Intn(700), r.Intn(2) == 0
		if r.Intn(10) == 0 {
			size = api.MaxWrap
		}
		wrap := func(x api.Int) api.Int { return is(whole.Wrap(x, size, signed)) }
		equal(t, "Wrap of a sum", wrap(is(whole.Add(a, b))), wrap(is(whole.Add(wrap(a), wrap(b)))))
		equal(t, "Wrap of a product", wrap(is(whole.Mul(a, b))), wrap(is(whole.Mul(wrap(a), wrap(b)))))
		equal(t, "Wrap of Wrap", wrap(wrap(a)), wrap(a))
		_, rest := divided(t, is(whole.Sub(a, wrap(a))), powerOfTwo(size), api.DvZero)
		equal(t, "what Wrap leaves out", rest, n(0))
	}
}

// text returns the text of an integer.
func text(t *testing.T, a api.Int, base int, upper bool) string {
	t.Helper()
	s, e := whole.Text(a, base, upper)
	if e != api.OK {
		t.Fatal(e)
	}
	return s
}

func TestTexts(t *testing.T) { // P2.7
	r := rand.New(rand.NewSource(21))
	for range 40 {
		a := number(r, r.Intn(60))
		for base := 2; base <= 36; base++ {
			for _, upper := range []bool{false, true} {
				b, e, at := whole.Parse(text(t, a, base, upper), base)
				same(t, "Parse of Text", b, e, oracle(a))
				if at != 0 {
					t.Fatal("offset", at)
				}
			}
		}
		var binary strings.Builder
		for i, c := range strings.TrimPrefix(text(t, a, 16, false), "-") {
			four := text(t, n(strings.IndexRune("0123456789abcdef", c)), 2, false)
			if i > 0 {
				four = strings.Repeat("0", 4-len(four)) + four
			}
			binary.WriteString(four)
		}
		if s := strings.TrimPrefix(text(t, a, 2, false), "-"); s != binary.String() {
			t.Fatalf("to the base 2: %s, not %s", s, binary.String())
		}
	}
}

func TestConstants(t *testing.T) { // P2.8
	r := rand.New(rand.NewSource(22))
	for range 500 {
		c := api.Constant{Value: natural(r, r.Intn(5)).Abs, Base: []int{2, 8, 10, 16}[r.Intn(4)], Unsigned: r.Intn(2) == 0, Length: r.Intn(3)}
		if len(c.Value) == 0 && c.Base == 10 {
			continue
		}
		s, e := whole.PrintC(c)
		if e != api.OK {
			t.Fatal(e)
		}
		again, e, at := whole.ParseC(s)
		if e != api.OK || at != 0 || !equalConstants(again, c) {
			t.Fatalf("ParseC of %s: %v, error %d at %d", s, again, e, at)
		}
		checkType(t, c)
		marked := strings.Join(strings.Split(s, ""), "'")
		for _, wrong := range []string{"0'b'", "0'x'", "0'b", "0'x"} {
			marked = strings.Replace(marked, wrong, strings.ReplaceAll(wrong, "'", ""), 1)
		}
		for _, wrong := range []string{"'U", "'L", "'U"} {
			marked = strings.ReplaceAll(marked, wrong, wrong[1:])
		}
		if again, e, _ = whole.ParseC(marked); e != api.OK || !equalConstants(again, c) {
			t.Fatalf("ParseC of %s: %v, error %d", marked, again, e)
		}
	}
	for _, a := range append(integers(), largest()) {
		s := new(big.Int).Abs(oracle(a)).String()
		if c, e, _ := whole.ParseC(s); e != api.OK || !slices.Equal(c.Value, a.Abs) {
			t.Fatalf("ParseC of %s: %v, error %d", s, c, e)
		}
	}
}

// checkType checks that the type of a constant has its value and agrees with its suffix.
func checkType(t *testing.T, c api.Constant) {
	t.Helper()
	kind, e := whole.TypeC(c)
	bits := 64
	if e == api.OK && kind.Length == api.SfInt {
		bits = 32
	}
	wrapped, f := whole.Wrap(api.Int{Abs: c.Value}, bits, !kind.Unsigned)
	has := f == api.OK && equalInts(wrapped, api.Int{Abs: c.Value})
	switch {
	case e == api.OK:
		if !has || kind.Length < c.Length || c.Unsigned && !kind.Unsigned || !c.Unsigned && c.Base == 10 && kind.Unsigned {
			t.Fatalf("TypeC of %v: %v", c, kind)
		}
	case e != api.ErrRange || len(c.Value) < 2 || len(c.Value) == 2 && (c.Base != 10 || c.Unsigned || c.Value[1] < 1<<31):
		t.Fatalf("TypeC of %v: error %d", c, e)
	}
}

func TestExamples(t *testing.T) {
	for _, c := range []struct{ a, b, how, q, r int }{
		{-7, 2, api.DvZero, -3, -1}, {-7, 2, api.DvDown, -4, 1}, {-7, 2, api.DvEuclid, -4, 1}, {-7, 2, api.DvNear, -4, 1},
		{7, -2, api.DvZero, -3, 1}, {7, -2, api.DvDown, -4, -1}, {7, -2, api.DvEuclid, -3, 1}, {7, -2, api.DvNear, -4, -1},
	} {
		q, r := divided(t, n(c.a), n(c.b), c.how)
		equal(t, "quotient", q, n(c.q))
		equal(t, "rest", r, n(c.r))
	}
	for _, c := range [][5]int{{12, 18, 6, 2, -1}, {-4, 0, 4, -1, 0}, {0, -5, 5, 0, -1}, {3, 7, 1, 5, -2}, {0, 0, 0, 0, 0}} {
		g, x, y, e := whole.Gcd(n(c[0]), n(c[1]))
		if e != api.OK || !equalInts(g, n(c[2])) || !equalInts(x, n(c[3])) || !equalInts(y, n(c[4])) {
			t.Errorf("Gcd of %d and %d: %v, %v, %v, error %d", c[0], c[1], g, x, y, e)
		}
	}
	for _, c := range []struct {
		s      string
		value  uint32
		base   int
		u      bool
		length int
	}{{"0x1'Full", 31, 16, true, 2}, {"0", 0, 8, false, 0}, {"017L", 15, 8, false, 1}, {"0B101lu", 5, 2, true, 1}, {"12", 12, 10, false, 0}} {
		got, e, _ := whole.ParseC(c.s)
		want := api.Constant{Value: n(int(c.value)).Abs, Base: c.base, Unsigned: c.u, Length: c.length}
		if e != api.OK || !equalConstants(got, want) {
			t.Errorf("ParseC of %s: %v, error %d", c.s, got, e)
		}
	}
	for s, offset := range map[string]int{"09": 1, "1''0": 2, "0b": 2, "12lL": 3} {
		wrongParseC(t, s, api.ErrForm, offset)
	}
	checkParse(t, "1 2", 10, api.ErrForm, 1)
	checkParse(t, "-", 2, api.ErrForm, 1)
	if s := text(t, n(-255), 16, true); s != "-FF" {
		t.Error("Text:", s)
	}
}
