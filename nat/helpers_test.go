package nat_test

import (
	"math/big"
	"math/rand"
	"slices"
	"strconv"
	"testing"

	"soroban/api"
	"soroban/nat"
)

const (
	most    = 1<<32 - 1 // the greatest element
	maxBits = 32 * api.MaxLimbs
)

// oracle returns a number as package big has it.
func oracle(a api.Nat) *big.Int {
	x := new(big.Int)
	for _, w := range slices.Backward(a) {
		x.Lsh(x, 32)
		x.Or(x, big.NewInt(int64(w)))
	}
	return x
}

// own returns a number of package big as a list of elements, of any length.
func own(x *big.Int) api.Nat {
	var a api.Nat
	rest := new(big.Int).Set(x)
	for rest.Sign() > 0 {
		a = append(a, uint32(rest.Uint64()))
		rest.Rsh(rest, 32)
	}
	return a
}

// filled returns a list of n elements that are all the same.
func filled(n int, x uint32) api.Nat {
	return slices.Repeat(api.Nat{x}, n)
}

// powerOfTwo returns 2 to the power of n.
func powerOfTwo(n int) api.Nat {
	a := make(api.Nat, n/32+1)
	a[n/32] = 1 << (n % 32)
	return a
}

// invalid returns lists that are no numbers: with a 0 at the end, or too long.
func invalid() []api.Nat {
	return []api.Nat{{0}, {5, 0}, {0, 0, 0}, append(filled(1023, 7), 0), filled(1025, 1), make(api.Nat, 1025), powerOfTwo(maxBits)}
}

// number returns some number of n elements. Most have many elements at the bounds, where carries run far and estimates go wrong.
func number(r *rand.Rand, n int) api.Nat {
	edges := []uint32{0, 0, 1, 2, 1<<31 - 1, 1 << 31, 1<<31 + 1, most - 1, most, most}
	kind := r.Intn(4)
	a := make(api.Nat, n)
	for i := range a {
		switch kind {
		case 0:
			a[i] = r.Uint32()
		case 1:
			a[i] = edges[r.Intn(len(edges))]
		case 2:
			a[i] = []uint32{0, most, r.Uint32()}[r.Intn(3)]
		default:
			a[i] = most
			if r.Intn(20) == 0 {
				a[i]--
			}
		}
	}
	if n > 0 && a[n-1] == 0 {
		a[n-1] = edges[2+r.Intn(8)]
	}
	return a
}

// numbers returns the numbers at which something changes, and some others.
func numbers() []api.Nat {
	r := rand.New(rand.NewSource(1))
	list := []api.Nat{nil, {}, {1}, {2}, {3}, {7}, {9}, {10}, {48}, {999999999}, {1000000000}, {1 << 31}, {most - 1}, {most}, {0, 1}, {1, 1}, {most, most}, {0, 1 << 31}, {0, 0, 1}, {1, 0, 1}, {most, most, most}, {0, 0, 0, 48}, {0, 0, 1 << 31, 1<<31 - 1}, {1, 0, 1 << 31}, {3, 0, 1 << 31}, {1, 0, 1 << 29}}
	for _, n := range []int{1, 2, 3, 4, 5, 8, 13, 31, 64, 65} {
		list = append(list, number(r, n), number(r, n))
	}
	return list
}

// largest returns the greatest number.
func largest() api.Nat { return filled(api.MaxLimbs, most) }

// same checks the result of a call that should be the number want, or ErrLimit if want is too large.
func same(t *testing.T, what string, got api.Nat, e api.Errno, want *big.Int) {
	t.Helper()
	if want.BitLen() > maxBits {
		if e != api.ErrLimit || len(got) != 0 {
			t.Fatalf("%s: %d elements and error %d, not ErrLimit", what, len(got), e)
		}
		return
	}
	if e != api.OK || !nat.Valid(got) || oracle(got).Cmp(want) != 0 {
		t.Fatalf("%s: %v and error %d, not %v", what, got, e, want)
	}
}

// failed checks the result of a call that should be an error.
func failed(t *testing.T, what string, got api.Nat, e, want api.Errno) {
	t.Helper()
	if e != want || len(got) != 0 {
		t.Errorf("%s: %d elements and error %d, not error %d", what, len(got), e, want)
	}
}

// sure returns the result of a call that should have no error.
func sure(t *testing.T) func(a api.Nat, e api.Errno) api.Nat {
	return func(a api.Nat, e api.Errno) api.Nat {
		t.Helper()
		if e != api.OK {
			t.Fatalf("error %d", e)
		}
		return a
	}
}

// equal checks that two numbers are the same.
func equal(t *testing.T, what string, a, b api.Nat) {
	t.Helper()
	if !slices.Equal(a, b) {
		t.Fatalf("%s: %v and %v", what, a, b)
	}
}

type (
	multiply func(a, b api.Nat) (api.Nat, api.Errno)
	divide   func(a, b api.Nat) (q, r api.Nat, e api.Errno)
)

// cuts are the cuts with which roads are tried.
func cuts() []int { return []int{2, 3, 4, 5, 7, 8, 16, 33, 100, 511, 512, 513, 1023, 1024} }

// productRoads returns all roads to products.
func productRoads() map[string]multiply {
	roads := map[string]multiply{"Mul": nat.Mul, "School": nat.School}
	for _, cut := range cuts() {
		roads["Karatsuba "+strconv.Itoa(cut)] = func(a, b api.Nat) (api.Nat, api.Errno) { return nat.Karatsuba(a, b, cut) }
	}
	return roads
}

// quotientRoads returns all roads to quotients.
func quotientRoads() map[string]divide {
	roads := map[string]divide{"Div": nat.Div, "Long": nat.Long, "Newton": nat.Newton}
	for _, cut := range cuts() {
		roads["Blocks "+strconv.Itoa(cut)] = func(a, b api.Nat) (q, r api.Nat, e api.Errno) { return nat.Blocks(a, b, cut) }
	}
	return roads
}
