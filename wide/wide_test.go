package wide_test

import (
	"math"
	"math/big"
	"math/rand"
	"slices"
	"testing"

	"soroban/api"
	"soroban/guard"
	"soroban/wide"
)

// oracle returns a number as package big has it.
func oracle(w wide.Number) *big.Int {
	x := new(big.Int)
	for _, element := range slices.Backward(w) {
		x.Lsh(x, 64).Or(x, new(big.Int).SetUint64(element))
	}
	return x
}

// number returns some number of n elements. Most have many elements at the bounds, where carries run far and estimates go wrong.
func number(r *rand.Rand, n int) wide.Number {
	edges := []uint64{0, 0, 1, 2, 1<<63 - 1, 1 << 63, 1<<63 + 1, math.MaxUint64 - 1, math.MaxUint64, math.MaxUint64}
	kind := r.Intn(4)
	w := make(wide.Number, n)
	for i := range w {
		switch kind {
		case 0:
			w[i] = r.Uint64()
		case 1:
			w[i] = edges[r.Intn(len(edges))]
		case 2:
			w[i] = []uint64{0, math.MaxUint64, r.Uint64()}[r.Intn(3)]
		default:
			w[i] = []uint64{0, math.MaxUint64}[r.Intn(20)/19]
		}
	}
	if n > 0 && w[n-1] == 0 {
		w[n-1] = edges[2+r.Intn(8)]
	}
	return w
}

// same checks a result.
func same(t *testing.T, what string, got wide.Number, want *big.Int) {
	t.Helper()
	if len(got) > 0 && got[len(got)-1] == 0 || oracle(got).Cmp(want) != 0 {
		t.Fatalf("%s: %v, not %v", what, got, want)
	}
}

func TestOperations(t *testing.T) {
	r := rand.New(rand.NewSource(1))
	for range 3000 {
		a, b := number(r, r.Intn(12)), number(r, r.Intn(8))
		check(t, a, b)
	}
	for range 30 {
		check(t, number(r, 500+r.Intn(600)), number(r, 1+r.Intn(1100)))
	}
}

// check checks all operations on two numbers, and that they do not change them.
func check(t *testing.T, a, b wide.Number) {
	t.Helper()
	wasA, wasB := slices.Clone(a), slices.Clone(b)
	x, y := oracle(a), oracle(b)
	same(t, "sum", a.Plus(b), new(big.Int).Add(x, y))
	same(t, "product", a.Times(b), new(big.Int).Mul(x, y))
	same(t, "divisor", a.CommonDivisor(b), new(big.Int).GCD(nil, nil, x, y))
	if c := a.Compare(b); c != x.Cmp(y) {
		t.Fatalf("Compare of %v and %v: %d", a, b, c)
	}
	if x.Cmp(y) >= 0 {
		same(t, "difference", a.Minus(b), new(big.Int).Sub(x, y))
	}
	if len(b) > 0 {
		quotient, rest := a.Over(b)
		q, r := new(big.Int).QuoRem(x, y, new(big.Int))
		same(t, "quotient", quotient, q)
		same(t, "rest", rest, r)
	}
	if !slices.Equal(a, wasA) || !slices.Equal(b, wasB) {
		t.Fatal("a number was changed")
	}
}

func TestCompare(t *testing.T) {
	list := []wide.Number{nil, {1}, {2}, {math.MaxUint64}, {0, 1}, {1, 1}, {0, 2}, {5, 2}, {0, 0, 1}}
	for i, a := range list {
		for k, b := range list {
			if got := a.Compare(b); got != big.NewInt(int64(i)).Cmp(big.NewInt(int64(k))) {
				t.Error(a, b, got)
			}
			check(t, a, b)
		}
	}
}

func TestNat(t *testing.T) {
	for _, a := range []api.Nat{nil, {1}, {0, 1}, {5, 6, 7}, {0, 0, 0, 1 << 31}, slices.Repeat(api.Nat{math.MaxUint32}, 1023), slices.Repeat(api.Nat{math.MaxUint32}, 1024)} {
		if got := wide.Of(a).Nat(); !slices.Equal(got, a) {
			t.Errorf("%v became %v", a, got)
		}
	}
	same(t, "Of", wide.Of(api.Nat{7, 8, 9}), oracle(wide.Number{8<<32 + 7, 9}))
	for _, n := range []int{513, 2000} {
		e := guard.Call(func() { number(rand.New(rand.NewSource(2)), n).Nat() })
		if e != api.ErrLimit {
			t.Error(n, e)
		}
	}
}

func TestCommonDivisorOfLongNumbers(t *testing.T) {
	r := rand.New(rand.NewSource(3))
	for _, n := range []int{100, 513, 600} {
		d := number(r, n)
		a, b := d.Times(number(r, 20)), d.Times(number(r, 600))
		same(t, "divisor", a.CommonDivisor(b), new(big.Int).GCD(nil, nil, oracle(a), oracle(b)))
		same(t, "divisor", b.CommonDivisor(a), new(big.Int).GCD(nil, nil, oracle(a), oracle(b)))
		same(t, "divisor", a.CommonDivisor(nil), oracle(a))
		same(t, "divisor", wide.Number{}.CommonDivisor(a), oracle(a))
	}
}

func TestDigits(t *testing.T) {
	r := rand.New(rand.NewSource(4))
	list := []wide.Number{nil, {}, {1}, {1 << 63}, {math.MaxUint64}, {0, 1}, {0, 0, 1 << 63}, {0, 3, 5}}
	for range 300 {
		list = append(list, number(r, r.Intn(9)))
	}
	for _, a := range list {
		was, x := slices.Clone(a), oracle(a)
		if a.Bits() != x.BitLen() || a.Zeros() != int(x.TrailingZeroBits()) {
			t.Fatalf("%v: %d bits, %d zeros", x, a.Bits(), a.Zeros())
		}
		for _, n := range []int{0, 1, 2, 31, 63, 64, 65, 127, 128, 129, 200, 640, 5000} {
			same(t, "Doubled", a.Doubled(n), new(big.Int).Lsh(x, uint(n)))
			same(t, "Halved", a.Halved(n), new(big.Int).Rsh(x, uint(n)))
			if a.Bit(n) != (x.Bit(n) == 1) {
				t.Fatalf("%v: bit %d is %v", x, n, a.Bit(n))
			}
			checkMoved(t, a, n)
			checkMoved(t, a, -n)
		}
		if !slices.Equal(a, was) {
			t.Fatal("a number was changed")
		}
	}
}

// checkMoved checks a number times 2^n, and whether something is lost.
func checkMoved(t *testing.T, a wide.Number, n int) {
	t.Helper()
	x, scale := oracle(a), new(big.Int).Lsh(big.NewInt(1), uint(max(n, -n)))
	want, rest := new(big.Int).Mul(x, scale), new(big.Int)
	if n < 0 {
		want.QuoRem(x, scale, rest)
	}
	moved, lost := a.Moved(n)
	same(t, "Moved", moved, want)
	if lost != (rest.Sign() > 0) {
		t.Fatalf("Moved of %v by %d: %v", x, n, lost)
	}
}

func TestPower(t *testing.T) {
	r := rand.New(rand.NewSource(6))
	for _, n := range []int{0, 1, 2, 3, 4, 5, 7, 8, 13, 100} {
		for size := range 5 {
			a := number(r, size)
			was := slices.Clone(a)
			same(t, "Power", a.Power(n), new(big.Int).Exp(oracle(a), big.NewInt(int64(n)), nil))
			if !slices.Equal(a, was) {
				t.Fatal("a number was changed")
			}
		}
	}
	same(t, "Power", wide.Number{5}.Power(13965), new(big.Int).Exp(big.NewInt(5), big.NewInt(13965), nil))
}

// integers returns integers of both signs, 0 with both of them.
func integers(r *rand.Rand) []wide.Integer {
	var list []wide.Integer
	magnitudes := []wide.Number{nil, {1}, {2}, {math.MaxUint64}, {0, 1}, {1, 1}}
	for range 25 {
		magnitudes = append(magnitudes, number(r, r.Intn(6)))
	}
	for _, magnitude := range magnitudes {
		list = append(list, wide.Integer{Magnitude: magnitude}, wide.Integer{Negative: true, Magnitude: magnitude})
	}
	return list
}

// value returns an integer as package big has it.
func value(x wide.Integer) *big.Int {
	n := oracle(x.Magnitude)
	if x.Negative {
		n.Neg(n)
	}
	return n
}

func TestIntegers(t *testing.T) {
	list := integers(rand.New(rand.NewSource(5)))
	sameInteger := func(what string, got wide.Integer, want *big.Int) {
		t.Helper()
		if value(got).Cmp(want) != 0 || got.Sign() != want.Sign() {
			t.Fatalf("%s: %v, not %v", what, got, want)
		}
	}
	for _, a := range list {
		x := value(a)
		sameInteger("opposite", a.Opposite(), new(big.Int).Neg(x))
		sameInteger("Doubled", a.Doubled(77), new(big.Int).Lsh(x, 77))
		sameInteger("IntegerOf Int", wide.IntegerOf(a.Int()), x)
		if n := a.Int(); n.Neg != (x.Sign() < 0) || !slices.Equal(n.Abs, a.Magnitude.Nat()) {
			t.Fatalf("%v became %v", x, n)
		}
		for _, b := range list {
			y := value(b)
			sameInteger("sum", a.Plus(b), new(big.Int).Add(x, y))
			sameInteger("product", a.Times(b), new(big.Int).Mul(x, y))
			if got := a.Compare(b); got != x.Cmp(y) {
				t.Fatalf("Compare of %v and %v: %d", x, y, got)
			}
		}
	}
	long := wide.Integer{Negative: true, Magnitude: wide.Number{1}.Doubled(64 * 512)}
	if e := guard.Call(func() { long.Int() }); e != api.ErrLimit {
		t.Error(e)
	}
}
