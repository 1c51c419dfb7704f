package whole_test

import (
	"encoding/binary"
	"math/big"
	"math/rand"
	"slices"
	"testing"

	"soroban/api"
	"soroban/whole"
)

const (
	most    = 1<<32 - 1 // the greatest element
	maxBits = 32 * api.MaxLimbs
)

// oracle returns an integer as package big has it.
func oracle(a api.Int) *big.Int {
	var bytes []byte
	for _, w := range slices.Backward(a.Abs) {
		bytes = binary.BigEndian.AppendUint32(bytes, w)
	}
	x := new(big.Int).SetBytes(bytes)
	if a.Neg {
		x.Neg(x)
	}
	return x
}

// own returns a number of package big as an integer, of any length.
func own(x *big.Int) api.Int {
	a := api.Int{Neg: x.Sign() < 0}
	bytes := make([]byte, (x.BitLen()+31)/32*4)
	x.FillBytes(bytes)
	for i := len(bytes); i > 0; i -= 4 {
		a.Abs = append(a.Abs, binary.BigEndian.Uint32(bytes[i-4:]))
	}
	return a
}

// n returns the integer that an int is.
func n(i int) api.Int { return own(big.NewInt(int64(i))) }

// minus returns the opposite of an integer.
func minus(a api.Int) api.Int {
	return api.Int{Neg: !a.Neg && len(a.Abs) > 0, Abs: a.Abs}
}

// filled returns a list of n elements that are all the same.
func filled(n int, x uint32) api.Nat {
	return slices.Repeat(api.Nat{x}, n)
}

// powerOfTwo returns 2 to the power of n.
func powerOfTwo(n int) api.Int {
	return own(new(big.Int).Lsh(big.NewInt(1), uint(n)))
}

// near returns 2 to the power of n, and something more or less.
func near(n, more int) api.Int {
	x := oracle(powerOfTwo(n))
	return own(x.Add(x, big.NewInt(int64(more))))
}

// largest returns the greatest integer.
func largest() api.Int { return api.Int{Abs: filled(api.MaxLimbs, most)} }

// invalid returns what is no integer: a negative 0, a 0 at the end of the elements, and too many elements.
func invalid() []api.Int {
	list := []api.Int{{Neg: true}, {Neg: true, Abs: api.Nat{}}}
	for _, a := range []api.Nat{{0}, {5, 0}, {0, 0, 0}, append(filled(1023, 7), 0), filled(1025, 1), make(api.Nat, 1025)} {
		list = append(list, api.Int{Abs: a}, api.Int{Neg: true, Abs: a})
	}
	return list
}

// number returns some integer of n elements. Most have many elements at the bounds, where carries run far and estimates go wrong.
func number(r *rand.Rand, n int) api.Int {
	edges := []uint32{0, 0, 1, 2, 1<<31 - 1, 1 << 31, 1<<31 + 1, most - 1, most, most}
	kind := r.Intn(4)
	a := make(api.Nat, n)
	for i := range a {
		switch kind {
		case 0:
			a[i] = r.Uint32()
		case 1:
			a[i] = edges[r.Intn(len(edges))]
		case 2:
			a[i] = []uint32{0, most, r.Uint32()}[r.Intn(3)]
		default:
			a[i] = []uint32{0, most}[r.Intn(20)/19]
		}
	}
	if n > 0 && a[n-1] == 0 {
		a[n-1] = edges[2+r.Intn(8)]
	}
	return api.Int{Neg: n > 0 && r.Intn(2) == 0, Abs: a}
}

// natural returns some integer of n elements that is not negative.
func natural(r *rand.Rand, n int) api.Int {
	a := number(r, n)
	a.Neg = false
	return a
}

// integers returns the integers at which something changes, and some others.
func integers() []api.Int {
	list := []api.Int{{}, {Abs: api.Nat{}}}
	for i := 1; i <= 12; i++ {
		list = append(list, n(i), n(-i))
	}
	for _, bits := range []int{7, 8, 16, 31, 32, 33, 63, 64, 65, 96, 128} {
		for _, more := range []int{-1, 0, 1} {
			a := near(bits, more)
			list = append(list, a, minus(a))
		}
	}
	r := rand.New(rand.NewSource(2))
	for _, n := range []int{1, 2, 3, 4, 7, 8, 31, 40} {
		list = append(list, number(r, n), number(r, n), number(r, n))
	}
	return list
}

// largeIntegers returns integers near the limit.
func largeIntegers() []api.Int {
	var list []api.Int
	for _, a := range []api.Int{largest(), near(maxBits, -2), powerOfTwo(maxBits - 1), near(maxBits-1, -1), near(maxBits-1, 1), near(maxBits-32, -1), powerOfTwo(maxBits - 32), powerOfTwo(maxBits / 2), near(maxBits/2, -1)} {
		list = append(list, a, minus(a))
	}
	return list
}

// same checks the result of a call that should be the integer want, or ErrLimit if want is too large.
func same(t *testing.T, what string, got api.Int, e api.Errno, want *big.Int) {
	t.Helper()
	if want.BitLen() > maxBits {
		failed(t, what, got, e, api.ErrLimit)
		return
	}
	if e != api.OK || !whole.Valid(got) || oracle(got).Cmp(want) != 0 {
		t.Fatalf("%s: %v and error %d, not %v", what, got, e, want)
	}
}

// failed checks the result of a call that should be an error.
func failed(t *testing.T, what string, got api.Int, e, want api.Errno) {
	t.Helper()
	if e != want || got.Neg || len(got.Abs) != 0 {
		t.Fatalf("%s: %d elements and error %d, not error %d", what, len(got.Abs), e, want)
	}
}

// sure returns the result of a call that should have no error.
func sure(t *testing.T) func(a api.Int, e api.Errno) api.Int {
	return func(a api.Int, e api.Errno) api.Int {
		t.Helper()
		if e != api.OK || !whole.Valid(a) {
			t.Fatalf("%v, error %d", a, e)
		}
		return a
	}
}

// equal checks that two integers are the same.
func equal(t *testing.T, what string, a, b api.Int) {
	t.Helper()
	if !equalInts(a, b) {
		t.Fatalf("%s: %v and %v", what, a, b)
	}
}

func equalInts(a, b api.Int) bool {
	return a.Neg == b.Neg && slices.Equal(a.Abs, b.Abs)
}

// order returns Cmp of two integers.
func order(t *testing.T, a, b api.Int) int {
	t.Helper()
	c, e := whole.Cmp(a, b)
	if e != api.OK || c < -1 || c > 1 {
		t.Fatalf("Cmp: %d, error %d", c, e)
	}
	return c
}

// divided returns Div of two integers.
func divided(t *testing.T, a, b api.Int, how int) (q, r api.Int) {
	t.Helper()
	q, r, e := whole.Div(a, b, how)
	if e != api.OK || !whole.Valid(q) || !whole.Valid(r) {
		t.Fatalf("Div: %v, %v, error %d", q, r, e)
	}
	return q, r
}
