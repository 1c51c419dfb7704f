package binary_test

import (
	"math"
	"math/big"
	"math/rand"
	"slices"
	"testing"

	"soroban/api"
	"soroban/binary"
)

func TestExamples(t *testing.T) { // the section Examples
	one := api.Datum{Fmt: api.FmSingle, Class: api.ClFinite, Coef: api.Nat{1 << 23}, Exp: -23}
	if r, e := binary.Encode(one); e != api.OK || r != (api.Raw{Lo: 0x3f800000}) {
		t.Errorf("Encode of the single 1: %x, error %d", r, e)
	}
	for _, c := range []struct {
		raw  api.Raw
		want api.Datum
		is   bool
	}{
		{api.Raw{Lo: 0x7c00}, api.Datum{Fmt: api.FmHalf, Class: api.ClInf}, true},
		{api.Raw{Lo: 0x7e01}, api.Datum{Fmt: api.FmHalf, Class: api.ClQuiet, Coef: api.Nat{1}}, true},
		{api.Raw{Lo: 0x7c05}, api.Datum{Fmt: api.FmHalf, Class: api.ClSignal, Coef: api.Nat{5}}, true},
		{api.Raw{Lo: 0x8000}, api.Datum{Fmt: api.FmHalf, Class: api.ClFinite, Neg: true, Exp: -24}, true},
		{api.Raw{Lo: 0x0001}, api.Datum{Fmt: api.FmHalf, Class: api.ClFinite, Coef: api.Nat{1}, Exp: -24}, true},
		{api.Raw{Lo: 1 << 63}, api.Datum{Fmt: api.FmExtended, Class: api.ClFinite, Coef: api.Nat{0, 1 << 31}, Exp: -16445}, false},
		{api.Raw{Hi: 0x4000}, api.Datum{Fmt: api.FmExtended, Class: api.ClSignal, Coef: api.Nat{1}}, false},
	} {
		d, e := binary.Decode(c.want.Fmt, c.raw)
		checkEqual(t, "Decode", d, e, c.want)
		if is, e := binary.Canonical(c.want.Fmt, c.raw); is != c.is || e != api.OK {
			t.Errorf("Canonical of %x: %v, error %d", c.raw, is, e)
		}
	}
	d, e := binary.Make(api.FmHalf, false, api.Nat{4097}, 0)
	checkFailed(t, "Make", d, e, api.ErrRange)
	d, e = binary.Make(api.FmHalf, false, api.Nat{4096}, 0)
	checkEqual(t, "Make", d, e, api.Datum{Fmt: api.FmHalf, Class: api.ClFinite, Coef: api.Nat{1024}, Exp: 2})
	d, e = binary.Make(api.FmHalf, false, api.Nat{3}, -24)
	checkEqual(t, "Make", d, e, api.Datum{Fmt: api.FmHalf, Class: api.ClFinite, Coef: api.Nat{3}, Exp: -24})
	for lo, want := range map[uint64]uint32{0x3c00: 15360, 0x7c00: 31744} {
		i, e := binary.Index(mustDecode(t, api.FmHalf, api.Raw{Lo: lo}))
		if e != api.OK || i.Neg || !slices.Equal(i.Abs, api.Nat{want}) {
			t.Errorf("Index of the half %x: %v, error %d", lo, i, e)
		}
	}
}

// noFormats returns numbers of no binary formats.
func noFormats() []int {
	return []int{math.MinInt, -1, 0, api.FmDec32, api.FmDec64, api.FmDec128, 9, 1<<32 + 1, math.MaxInt}
}

func TestFormat(t *testing.T) { // P5.1
	for _, x := range forms() {
		want := api.BinFormat{Digits: x.p, Emax: x.emax, Low: x.low, High: x.high, Width: x.width}
		if got, e := binary.Format(x.f); got != want || e != api.OK {
			t.Errorf("Format %d: %v, error %d", x.f, got, e)
		}
	}
	for _, f := range noFormats() {
		if got, e := binary.Format(f); got != (api.BinFormat{}) || e != api.ErrArg {
			t.Errorf("Format %d: %v, error %d", f, got, e)
		}
	}
}

func TestCheck(t *testing.T) { // P5.1, the section Terms
	for _, x := range forms() {
		for _, d := range x.data() {
			if e := binary.Check(d); e != api.OK {
				t.Errorf("Check of %v: error %d", d, e)
			}
		}
		for _, d := range x.invalid() {
			if e := binary.Check(d); e != api.ErrArg {
				t.Errorf("Check of %v: error %d", d, e)
			}
		}
	}
	if e := binary.Check(api.Datum{}); e != api.ErrArg {
		t.Error("Check of the zero value: error", e)
	}
}

func TestSame(t *testing.T) { // P5.1
	var list []api.Datum
	for _, x := range forms() {
		list = append(list, x.data()[:30]...)
		list = append(list, x.nans(true)[:9]...)
	}
	half := forms()[0]
	list = append(list, half.invalid()...)
	for i, a := range list {
		b := a
		b.Coef = append(api.Nat{}, a.Coef...)
		if !binary.Same(a, b) || !binary.Same(b, a) {
			t.Errorf("%v is not the same as itself", a)
		}
		changes := []func(d *api.Datum){
			func(d *api.Datum) { d.Fmt++ },
			func(d *api.Datum) { d.Class++ },
			func(d *api.Datum) { d.Neg = !d.Neg },
			func(d *api.Datum) { d.Exp++ },
			func(d *api.Datum) { d.Coef = append(d.Coef, 0) },
			func(d *api.Datum) { d.Coef = append(api.Nat{7}, d.Coef...) },
		}
		for k := range a.Coef {
			changes = append(changes, func(d *api.Datum) { d.Coef[k] ^= 1 << 31 })
		}
		for k, change := range changes {
			b := a
			b.Coef = slices.Clone(a.Coef)
			change(&b)
			if binary.Same(a, b) || binary.Same(b, a) {
				t.Errorf("change %d of datum %d is the same", k, i)
			}
		}
	}
	if !binary.Same(api.Datum{}, api.Datum{Coef: api.Nat{}}) {
		t.Error("an empty list is not the same as nil")
	}
}

// made returns the datum with a value, by its definition: the one of all that are valid.
func (x form) made(neg bool, coef *big.Int, exp int) (api.Datum, bool) {
	if coef.Sign() == 0 {
		return x.finite(neg, coef, x.low), true
	}
	for _, own := range []int{x.low, exp + coef.BitLen() - x.p} { // a valid datum has this Exp, or all digits
		c := new(big.Int).Lsh(coef, uint(max(exp-own, 0)))
		c.Rsh(c, uint(max(own-exp, 0)))
		exact := new(big.Int).Lsh(c, uint(max(own-exp, 0))).Cmp(new(big.Int).Lsh(coef, uint(max(exp-own, 0)))) == 0
		if exact && c.BitLen() <= x.p && own >= x.low && own <= x.high && (own == x.low || c.BitLen() == x.p) {
			return x.finite(neg, c, own), true
		}
	}
	return api.Datum{}, false
}

// checkMake checks Make.
func (x form) checkMake(t *testing.T, neg bool, coef *big.Int, exp int) {
	t.Helper()
	got, e := binary.Make(x.f, neg, natural(coef), exp)
	if want, some := x.made(neg, coef, exp); some {
		checkEqual(t, "Make", got, e, want)
	} else {
		checkFailed(t, "Make", got, e, api.ErrRange)
	}
}

func TestMake(t *testing.T) { // P5.2
	for _, x := range forms() {
		exps := []int{x.low - 3, x.low - 1, x.low, x.low + 1, x.low + x.p - 2, x.low + x.p - 1, x.low + x.p, -x.p, -1, 0, 1, x.high - x.p, x.high - 1, x.high, x.high + 1, x.emax - 2, x.emax - 1, x.emax, x.emax + 1}
		for _, exp := range exps {
			for coef := range 35 {
				x.checkMake(t, coef%3 == 0, big.NewInt(int64(coef)), exp)
			}
			for n := 5; n < x.p+6; n++ {
				for _, more := range []int{-2, -1, 0, 1, 2} {
					x.checkMake(t, n%2 == 0, power(n, more), exp)
				}
			}
		}
	}
	half := forms()[0]
	for coef := range 4200 { // all numbers of up to 12 digits, with all exponents that a half can have, and others
		for exp := -28; exp <= 17; exp++ {
			half.checkMake(t, exp%2 == 0, big.NewInt(int64(coef)), exp)
		}
	}
}

func TestMakeFar(t *testing.T) { // P5.2: long coefficients, and exponents that are any ints
	const size = 32 * api.MaxLimbs
	for _, x := range forms() {
		for _, zeros := range []int{31, 32, 33, 127, 128, 129, x.high - x.low, 20000, size - 3} {
			for _, odd := range []int64{1, 3, 5, 7} {
				coef := new(big.Int).Lsh(big.NewInt(odd), uint(zeros))
				for _, exp := range []int{x.low, x.low - 1, x.high, x.high + 1, x.emax + 1, x.emax, x.emax - 1, x.emax - 2, 0} {
					x.checkMake(t, odd == 5, coef, exp-zeros)
				}
			}
		}
		x.checkMake(t, false, power(size, -1), -size)
		x.checkMake(t, false, new(big.Int).Lsh(power(x.p, -1), uint(size-x.p)), x.high-size+x.p)
		x.checkMake(t, false, new(big.Int).Lsh(power(x.p, 1), uint(size-x.p-1)), -size)
		for _, exp := range []int{math.MinInt, math.MinInt + 1, math.MinInt + size, -1 << 40, 1 << 40, math.MaxInt - size, math.MaxInt - 1, math.MaxInt} {
			for _, coef := range []api.Nat{{1}, {0, 1}, natural(power(x.p, -1)), natural(power(size-1, 0)), natural(power(size, -1))} {
				got, e := binary.Make(x.f, true, coef, exp)
				checkFailed(t, "Make", got, e, api.ErrRange)
			}
			for _, coef := range []api.Nat{nil, {}} {
				got, e := binary.Make(x.f, true, coef, exp)
				checkEqual(t, "Make of 0", got, e, x.finite(true, new(big.Int), x.low))
			}
			for _, coef := range invalidNats() {
				got, e := binary.Make(x.f, false, coef, exp)
				checkFailed(t, "Make", got, e, api.ErrArg)
			}
		}
	}
}

func TestSpecial(t *testing.T) { // P5.2
	for _, x := range forms() {
		for _, d := range append(x.nans(false), x.nans(true)...) {
			got, e := binary.Special(x.f, d.Class, d.Neg, d.Coef)
			checkEqual(t, "Special", got, e, d)
		}
		for _, neg := range []bool{false, true} {
			for _, payload := range []api.Nat{nil, {}} {
				got, e := binary.Special(x.f, api.ClInf, neg, payload)
				checkEqual(t, "Special", got, e, x.special(api.ClInf, neg, new(big.Int)))
			}
			for _, class := range []int{math.MinInt, -1, 0, api.ClFinite, 5, math.MaxInt} {
				for _, payload := range []api.Nat{nil, {1}, natural(power(x.p-1, 0))} {
					got, e := binary.Special(x.f, class, neg, payload)
					checkFailed(t, "Special", got, e, api.ErrArg)
				}
			}
			for _, d := range x.invalid() {
				if d.Fmt == x.f && d.Class != api.ClFinite && d.Exp == 0 {
					got, e := binary.Special(x.f, d.Class, neg, d.Coef)
					checkFailed(t, "Special", got, e, api.ErrArg)
				}
			}
		}
	}
}

func TestEncode(t *testing.T) { // P5.3, the section Terms
	for _, x := range forms() {
		for _, d := range x.data() {
			if got, e := binary.Encode(d); got != x.encoded(d) || e != api.OK {
				t.Fatalf("Encode of %v: %x and error %d, not %x", d, got, e, x.encoded(d))
			}
		}
	}
}

func TestDecode(t *testing.T) { // P5.3
	for _, x := range forms() {
		for _, d := range x.data() {
			r := x.encoded(d)
			got, e := binary.Decode(x.f, r)
			checkEqual(t, "Decode", got, e, d)
			if is, e := binary.Canonical(x.f, r); !is || e != api.OK {
				t.Fatalf("Canonical of %x: %v, error %d", r, is, e)
			}
		}
	}
}

func TestDecodeNumbers(t *testing.T) { // P5.3, P5.4: singles and doubles are those of Go
	check := func(f int, r api.Raw, want float64) {
		t.Helper()
		v, e := binary.Value(mustDecode(t, f, r))
		if math.IsNaN(want) || math.IsInf(want, 0) {
			if e != api.ErrNone {
				t.Fatalf("Value of %x: error %d", r, e)
			}
			return
		}
		got, _ := new(big.Float).SetInt(bigInt(v.Man)).Float64()
		if got = math.Ldexp(got, v.Exp); got != want || e != api.OK {
			t.Fatalf("Value of %x: %v and error %d, not %v", r, got, e, want)
		}
	}
	r := rand.New(rand.NewSource(3))
	for _, raw := range forms()[1].raws() {
		check(api.FmSingle, raw, float64(math.Float32frombits(uint32(raw.Lo))))
	}
	for _, raw := range forms()[2].raws() {
		check(api.FmDouble, raw, math.Float64frombits(raw.Lo))
	}
	for range 3000 {
		lo := r.Uint64()
		check(api.FmSingle, api.Raw{Lo: lo >> 32}, float64(math.Float32frombits(uint32(lo>>32))))
		check(api.FmDouble, api.Raw{Lo: lo}, math.Float64frombits(lo))
	}
}

// odd returns the datum of an extended that bits mean which no datum has, or false.
func odd(r api.Raw) (api.Datum, bool) {
	field, integer := r.Hi&0x7fff, r.Lo>>63 == 1
	x := forms()[3]
	neg := r.Hi>>15 == 1
	switch {
	case field == 0 && integer: // a pseudo-denormal
		return x.finite(neg, new(big.Int).SetUint64(r.Lo), x.low), true
	case field != 0 && !integer:
		return x.special(api.ClSignal, neg, power(0, 0)), true
	}
	return api.Datum{}, false
}

func TestDecodeOddBits(t *testing.T) { // P5.3: the bits of extendeds that no datum has
	count := 0
	for _, r := range forms()[3].raws() {
		want, is := odd(r)
		if is {
			count++
			got, e := binary.Decode(api.FmExtended, r)
			checkEqual(t, "Decode", got, e, want)
		}
		if canonical, e := binary.Canonical(api.FmExtended, r); canonical == is || e != api.OK {
			t.Fatalf("Canonical of %x: %v, error %d", r, canonical, e)
		}
	}
	if count < 50 {
		t.Error("there are only", count)
	}
}

func TestForeignBits(t *testing.T) { // P5.3: bits that a format does not have
	for _, x := range forms() {
		for n := x.width; n < 128; n++ {
			for _, raw := range []api.Raw{rawOf(power(n, 0)), rawOf(power(n, 1)), rawOf(new(big.Int).Add(power(n, 0), power(x.width-1, -3)))} {
				d, e := binary.Decode(x.f, raw)
				checkFailed(t, "Decode", d, e, api.ErrArg)
				if is, e := binary.Canonical(x.f, raw); is || e != api.ErrArg {
					t.Fatalf("Canonical of %x: %v, error %d", raw, is, e)
				}
			}
		}
	}
}

func TestValue(t *testing.T) { // P5.4
	for _, x := range forms() {
		for _, d := range x.data() {
			v, e := binary.Value(d)
			switch {
			case d.Class != api.ClFinite:
				if e != api.ErrNone || v.Man.Neg || len(v.Man.Abs) > 0 || v.Exp != 0 {
					t.Fatalf("Value of %v: %v, error %d", d, v, e)
				}
				continue
			case len(d.Coef) == 0:
				if e != api.OK || v.Man.Neg || len(v.Man.Abs) > 0 || v.Exp != 0 {
					t.Fatalf("Value of %v: %v, error %d", d, v, e)
				}
				continue
			}
			got := new(big.Int).Lsh(bigInt(v.Man), uint(v.Exp-x.low))
			if e != api.OK || got.Cmp(x.value(d)) != 0 || v.Man.Abs[0]%2 == 0 || v.Man.Abs[len(v.Man.Abs)-1] == 0 {
				t.Fatalf("Value of %v: %v, error %d", d, v, e)
			}
		}
	}
}

func TestMarkedData(t *testing.T) { // P5.5
	for _, x := range forms() {
		least, e := binary.Least(x.f)
		checkEqual(t, "Least", least, e, x.finite(false, power(0, 0), x.low))
		normal, e := binary.LeastNormal(x.f)
		checkEqual(t, "LeastNormal", normal, e, x.finite(false, power(x.p-1, 0), x.low))
		greatest, e := binary.Greatest(x.f)
		checkEqual(t, "Greatest", greatest, e, x.finite(false, power(x.p, -1), x.high))
		epsilon, e := binary.Epsilon(x.f)
		want, _ := x.made(false, power(0, 0), 1-x.p)
		checkEqual(t, "Epsilon", epsilon, e, want)
	}
}

func TestIndex(t *testing.T) { // P5.6, the section Terms
	for _, x := range forms() {
		for _, d := range x.ordered() {
			i, e := binary.Index(d)
			want := x.place(d)
			if e != api.OK || bigInt(i).Cmp(want) != 0 || i.Neg != (want.Sign() < 0) || len(i.Abs) != len(natural(new(big.Int).Abs(want))) {
				t.Fatalf("Index of %v: %v and error %d, not %v", d, i, e, want)
			}
		}
		for _, d := range append(x.nans(false), x.nans(true)...) {
			if i, e := binary.Index(d); e != api.ErrNone || i.Neg || len(i.Abs) > 0 {
				t.Fatalf("Index of %v: %v, error %d", d, i, e)
			}
		}
	}
}

func TestAt(t *testing.T) { // P5.6
	for _, x := range forms() {
		for _, d := range x.ordered() {
			got, e := binary.At(x.f, integer(x.place(d)))
			if len(d.Coef) == 0 && d.Class == api.ClFinite {
				d.Neg = false
			}
			checkEqual(t, "At", got, e, d)
		}
		infinity := x.infinity()
		for _, more := range []*big.Int{power(0, 0), power(1, 0), power(31, 0), power(64, 0), power(126, 0), power(127, 0), power(128, 0), power(300, 0), power(32000, 0)} {
			beyond := new(big.Int).Add(infinity, more)
			for _, i := range []api.Int{integer(beyond), integer(new(big.Int).Neg(beyond))} {
				got, e := binary.At(x.f, i)
				checkFailed(t, "At", got, e, api.ErrRange)
			}
		}
		for _, i := range invalidInts() {
			got, e := binary.At(x.f, i)
			checkFailed(t, "At", got, e, api.ErrArg)
		}
	}
}

// invalidInts returns what is no integer.
func invalidInts() []api.Int {
	list := []api.Int{{Neg: true}, {Neg: true, Abs: api.Nat{}}}
	for _, a := range invalidNats() {
		list = append(list, api.Int{Abs: a}, api.Int{Neg: true, Abs: a})
	}
	return list
}
