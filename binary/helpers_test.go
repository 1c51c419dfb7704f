package binary_test

import (
	"fmt"
	"math/big"
	"math/rand"
	"slices"
	"strings"
	"testing"

	"soroban/api"
	"soroban/binary"
	"soroban/nat"
)

// form is a binary format as the chapter's tables say it: with the size of its exponent field, and whether it has an integer bit.
type form struct {
	f, p, emax, low, high, width, field int
	integer                             bool
}

func forms() []form {
	return []form{
		{api.FmHalf, 11, 15, -24, 5, 16, 5, false},
		{api.FmSingle, 24, 127, -149, 104, 32, 8, false},
		{api.FmDouble, 53, 1023, -1074, 971, 64, 11, false},
		{api.FmExtended, 64, 16383, -16445, 16320, 80, 15, true},
		{api.FmQuad, 113, 16383, -16494, 16271, 128, 15, false},
	}
}

// power returns a power of 2, and something more or less.
func power(n, more int) *big.Int {
	x := new(big.Int).Lsh(big.NewInt(1), uint(n))
	return x.Add(x, big.NewInt(int64(more)))
}

// oracle returns a natural number as package big has it.
func oracle(a api.Nat) *big.Int {
	x := new(big.Int)
	for _, w := range slices.Backward(a) {
		x.Lsh(x, 32)
		x.Or(x, big.NewInt(int64(w)))
	}
	return x
}

// natural returns a number of package big that is not negative, of any length.
func natural(x *big.Int) api.Nat {
	var a api.Nat
	for rest := new(big.Int).Set(x); rest.Sign() > 0; rest.Rsh(rest, 32) {
		a = append(a, uint32(rest.Uint64()))
	}
	return a
}

// integer returns an integer of package big.
func integer(x *big.Int) api.Int {
	return api.Int{Neg: x.Sign() < 0, Abs: natural(new(big.Int).Abs(x))}
}

// bigInt returns an integer as package big has it.
func bigInt(a api.Int) *big.Int {
	x := oracle(a.Abs)
	if a.Neg {
		x.Neg(x)
	}
	return x
}

// rawOf returns a number below 2^128 as bits.
func rawOf(x *big.Int) api.Raw {
	return api.Raw{Hi: new(big.Int).Rsh(x, 64).Uint64(), Lo: new(big.Int).And(x, power(64, -1)).Uint64()}
}

// bigRaw returns bits as a number.
func bigRaw(r api.Raw) *big.Int {
	x := new(big.Int).SetUint64(r.Hi)
	return x.Or(x.Lsh(x, 64), new(big.Int).SetUint64(r.Lo))
}

// digits returns the last binary digits of a number, as a text.
func digits(x *big.Int, n int) string {
	return fmt.Sprintf("%0*b", n, x)
}

// rawOfDigits returns bits that are written as binary digits.
func rawOfDigits(s string) api.Raw {
	x, ok := new(big.Int).SetString(s, 2)
	if !ok {
		panic(s)
	}
	return rawOf(x)
}

// encoded returns the bits of a valid datum, column by column as the chapter's table says it.
func (x form) encoded(d api.Datum) api.Raw {
	sign, field, integer, fraction := "0", strings.Repeat("1", x.field), "1", oracle(d.Coef)
	if d.Neg {
		sign = "1"
	}
	unit := power(x.p-1, 0)
	switch {
	case d.Class == api.ClFinite && fraction.Cmp(unit) >= 0:
		field = digits(big.NewInt(int64(d.Exp-x.low+1)), x.field)
		fraction.Sub(fraction, unit)
	case d.Class == api.ClFinite:
		field, integer = strings.Repeat("0", x.field), "0"
	case d.Class == api.ClQuiet:
		fraction.Add(fraction, power(x.p-2, 0))
	}
	if !x.integer {
		integer = ""
	}
	return rawOfDigits(sign + field + integer + digits(fraction, x.p-1))
}

// finite returns the finite datum coef times 2^exp, without a look at whether it is valid.
func (x form) finite(neg bool, coef *big.Int, exp int) api.Datum {
	return api.Datum{Fmt: x.f, Class: api.ClFinite, Neg: neg, Coef: natural(coef), Exp: exp}
}

// special returns a datum that is not finite, without a look at whether it is valid.
func (x form) special(class int, neg bool, payload *big.Int) api.Datum {
	return api.Datum{Fmt: x.f, Class: class, Neg: neg, Coef: natural(payload)}
}

// below returns some number below 2^n, often one with few changes among its bits.
func below(r *rand.Rand, n int) *big.Int {
	x := new(big.Int).Rand(r, power(n, 0))
	if r.Intn(2) == 0 {
		return x
	}
	x = power(r.Intn(n), 0)
	return x.Sub(x, power(r.Intn(x.BitLen()), 0)).Abs(x)
}

// numbers returns finite data of one sign at which something changes, and some others.
func (x form) numbers(neg bool) []api.Datum {
	r := rand.New(rand.NewSource(int64(x.f)))
	list := []api.Datum{x.finite(neg, new(big.Int), x.low), x.finite(neg, power(x.p-1, -1), x.low)}
	for range 20 {
		list = append(list, x.finite(neg, below(r, x.p-1), x.low))
	}
	for n := range min(x.p-1, 70) {
		list = append(list, x.finite(neg, power(n, 0), x.low))
	}
	exps := []int{x.low, x.low + 1, x.low + 2, -x.p, -x.p + 1, -1, 0, 1, x.high - 1, x.high}
	for range 10 {
		exps = append(exps, x.low+r.Intn(x.high-x.low+1))
	}
	for _, exp := range exps {
		for _, coef := range []*big.Int{new(big.Int), power(0, 0), power(x.p-1, -1), below(r, x.p-1), below(r, x.p-1)} {
			list = append(list, x.finite(neg, coef.Add(coef, power(x.p-1, 0)), exp))
		}
	}
	return list
}

// nans returns NaNs of one sign at which something changes, and some others.
func (x form) nans(neg bool) []api.Datum {
	r := rand.New(rand.NewSource(int64(x.f)))
	list := []api.Datum{x.special(api.ClQuiet, neg, new(big.Int))}
	payloads := []*big.Int{power(0, 0), power(1, 0), power(1, 1), power(x.p-3, 0), power(x.p-2, -2), power(x.p-2, -1)}
	for range 20 {
		payload := below(r, x.p-2)
		if payload.Sign() > 0 {
			payloads = append(payloads, payload)
		}
	}
	for _, payload := range payloads {
		list = append(list, x.special(api.ClQuiet, neg, payload), x.special(api.ClSignal, neg, payload))
	}
	return list
}

// ordered returns data that are no NaNs.
func (x form) ordered() []api.Datum {
	var list []api.Datum
	for _, neg := range []bool{false, true} {
		list = append(list, x.numbers(neg)...)
		list = append(list, x.special(api.ClInf, neg, new(big.Int)))
	}
	return list
}

// data returns data of all classes.
func (x form) data() []api.Datum {
	list := append(x.ordered(), x.nans(false)...)
	return append(list, x.nans(true)...)
}

// raws returns bits that the format has: all of a half; otherwise those of the data, those at which something changes, and some others.
func (x form) raws() []api.Raw {
	var list []api.Raw
	if x.f == api.FmHalf {
		for lo := range uint64(1 << 16) {
			list = append(list, api.Raw{Lo: lo})
		}
		return list
	}
	for _, d := range x.data() {
		list = append(list, x.encoded(d))
	}
	last := 1<<x.field - 1
	behind := x.width - 1 - x.field
	r := rand.New(rand.NewSource(int64(x.f)))
	for _, field := range []int{0, 1, 2, last / 2, last - 1, last, r.Intn(last), r.Intn(last)} {
		rests := []*big.Int{new(big.Int), power(0, 0), power(behind, -1), power(behind-1, -1), power(behind-1, 0), power(behind-1, 1), power(behind-2, -1), power(behind-2, 0), power(behind-2, 1), below(r, behind), below(r, behind)}
		for _, rest := range rests {
			for _, sign := range []string{"0", "1"} {
				list = append(list, rawOfDigits(sign+digits(big.NewInt(int64(field)), x.field)+digits(rest, behind)))
			}
		}
	}
	return list
}

// invalid returns data that are not valid.
func (x form) invalid() []api.Datum {
	var list []api.Datum
	for _, neg := range []bool{false, true} {
		for _, f := range []int{0, -1, 6, 7, 8, 9, 1 << 40} {
			d := x.finite(neg, new(big.Int), x.low)
			d.Fmt = f
			list = append(list, d)
		}
		for _, class := range []int{0, -1, 5, 1 << 32} {
			list = append(list, x.special(class, neg, new(big.Int)), x.special(class, neg, power(x.p-1, 0)))
		}
		for _, exp := range []int{-1 << 63, x.low - 1, x.high + 1, 1<<63 - 1} {
			list = append(list, x.finite(neg, power(x.p-1, 0), exp), x.finite(neg, new(big.Int), exp))
		}
		for _, exp := range []int{x.low + 1, 0, x.high} {
			list = append(list, x.finite(neg, power(x.p-1, -1), exp), x.finite(neg, new(big.Int), exp))
		}
		for _, exp := range []int{x.low, 0, x.high} {
			list = append(list, x.finite(neg, power(x.p, 0), exp), x.finite(neg, power(x.p, 1), exp), x.finite(neg, power(128, 0), exp), x.finite(neg, power(4000, 0), exp))
		}
		for _, coef := range []*big.Int{power(0, 0), power(x.p-1, 0), power(200, 0)} {
			list = append(list, x.special(api.ClInf, neg, coef))
		}
		for _, class := range []int{api.ClQuiet, api.ClSignal} {
			for _, more := range []int{0, 1} {
				list = append(list, x.special(class, neg, power(x.p-2, more)), x.special(class, neg, power(x.p-1, more)), x.special(class, neg, power(160, more)))
			}
		}
		list = append(list, x.special(api.ClSignal, neg, new(big.Int)))
		for _, class := range []int{api.ClInf, api.ClQuiet, api.ClSignal} {
			for _, exp := range []int{-1, 1, x.low} {
				d := x.special(class, neg, big.NewInt(int64(class-api.ClInf)))
				d.Exp = exp
				list = append(list, d)
			}
		}
	}
	for _, d := range x.data()[:1] {
		for _, coef := range invalidNats() {
			for class := api.ClFinite; class <= api.ClSignal; class++ {
				d.Class, d.Coef, d.Exp = class, coef, 0
				if class == api.ClFinite {
					d.Exp = x.low
				}
				list = append(list, d)
			}
		}
	}
	return list
}

// invalidNats returns lists that are no natural numbers: with a 0 at the end, or too long.
func invalidNats() []api.Nat {
	return []api.Nat{{0}, {5, 0}, {0, 0, 0, 0}, slices.Repeat(api.Nat{1}, api.MaxLimbs+1), make(api.Nat, api.MaxLimbs+1)}
}

// checkEqual checks that a call gives a datum, in all fields, that is valid.
func checkEqual(t *testing.T, what string, got api.Datum, e api.Errno, want api.Datum) {
	t.Helper()
	if e != api.OK || got.Fmt != want.Fmt || got.Class != want.Class || got.Neg != want.Neg || got.Exp != want.Exp || !slices.Equal(got.Coef, want.Coef) || !nat.Valid(got.Coef) {
		t.Fatalf("%s: %v and error %d, not %v", what, got, e, want)
	}
}

// checkFailed checks that a call gives an error and no datum.
func checkFailed(t *testing.T, what string, got api.Datum, e, want api.Errno) {
	t.Helper()
	if e != want || got.Fmt != 0 || got.Class != 0 || got.Neg || got.Exp != 0 || len(got.Coef) > 0 {
		t.Fatalf("%s: %v and error %d, not error %d", what, got, e, want)
	}
}

// sure returns the result of a call that should have no error.
func sure[T any](t *testing.T, what string) func(x T, e api.Errno) T {
	return func(x T, e api.Errno) T {
		t.Helper()
		if e != api.OK {
			t.Fatalf("%s: error %d", what, e)
		}
		return x
	}
}

// value returns the number that a finite datum is, by its definition, times 2 to the power of -low.
func (x form) value(d api.Datum) *big.Int {
	v := oracle(d.Coef)
	v.Lsh(v, uint(d.Exp-x.low))
	if d.Neg {
		v.Neg(v)
	}
	return v
}

// place returns the place of a datum, by its definition.
func (x form) place(d api.Datum) *big.Int {
	if d.Class == api.ClInf {
		greatest := x.place(x.finite(false, power(x.p, -1), x.high))
		greatest.Add(greatest, power(0, 0))
		if d.Neg {
			greatest.Neg(greatest)
		}
		return greatest
	}
	place := new(big.Int).Mul(big.NewInt(int64(d.Exp-x.low)), power(x.p-1, 0))
	place.Add(place, oracle(d.Coef))
	if d.Neg {
		place.Neg(place)
	}
	return place
}

// infinity returns the place of the infinity without a sign.
func (x form) infinity() *big.Int {
	return x.place(x.special(api.ClInf, false, new(big.Int)))
}

// mustDecode returns the datum that bits mean.
func mustDecode(t *testing.T, f int, r api.Raw) api.Datum {
	t.Helper()
	return sure[api.Datum](t, "Decode")(binary.Decode(f, r))
}
