package decimal_test

import (
	"fmt"
	"math/big"
	"strconv"
	"testing"

	"soroban/api"
	"soroban/decimal"
)

func TestExamples(t *testing.T) { // the section Examples
	for n, want := range map[int]int{5: 5, 9: 9, 55: 85, 79: 121, 80: 10, 99: 95, 555: 725, 999: 255} {
		if got, e := decimal.Pack(n); got != want || e != api.OK {
			t.Errorf("Pack(%d): %d, error %d", n, got, e)
		}
	}
	if n, is, e := decimal.Unpack(1023); n != 999 || is || e != api.OK {
		t.Errorf("Unpack(1023): %d, %v, error %d", n, is, e)
	}
	dec32 := forms()[0]
	one, zero := dec32.finiteDatum(false, big.NewInt(1), 0), dec32.finiteDatum(false, new(big.Int), 0)
	infinity, signal := dec32.specialDatum(api.ClInf, false, new(big.Int)), dec32.specialDatum(api.ClSignal, false, new(big.Int))
	for _, c := range []struct {
		enc       int
		lo        uint64
		want      api.Datum
		canonical bool
	}{
		{api.EnPacked, 0x22500001, one, true},
		{api.EnBinary, 0x32800001, one, true},
		{api.EnBinary, 0x6CB89680, zero, false},
		{api.EnPacked, 0x78000001, infinity, false},
		{api.EnBinary, 0x78000001, infinity, false},
		{api.EnPacked, 0x7E000000, signal, true},
		{api.EnBinary, 0x7E000000, signal, true},
	} {
		d, is, e := decimal.Decode(api.FmDec32, c.enc, api.Raw{Lo: c.lo})
		checkEqual(t, "Decode", d, e, c.want)
		if is != c.canonical {
			t.Errorf("bits %x are canonical: %v", c.lo, is)
		}
	}
	d := dec32.finiteDatum(true, big.NewInt(750), -2)
	if r, e := decimal.Encode(d, api.EnBinary); r != (api.Raw{Lo: 0xB18002EE}) || e != api.OK {
		t.Errorf("Encode: %x, error %d", r, e)
	}
	if v, e := decimal.Value(d); bigRat(v).Cmp(big.NewRat(-15, 2)) != 0 || e != api.OK {
		t.Errorf("Value: %v, error %d", v, e)
	}
	d = dec32.finiteDatum(false, big.NewInt(1200), 0)
	checkCohort(t, d, -3, 2)
	checkCohort(t, zero, -101, 90)
	member, e := decimal.Member(d, 2)
	checkEqual(t, "Member", member, e, dec32.finiteDatum(false, big.NewInt(12), 2))
	member, e = decimal.Member(d, 3)
	checkFailed(t, "Member", member, e, api.ErrNone)
	normal, e := decimal.Normal(dec32.finiteDatum(false, new(big.Int), 5))
	checkEqual(t, "Normal", normal, e, zero)
}

// checkFailed checks that a call gives an error and no datum.
func checkFailed(t *testing.T, what string, got api.Datum, e, want api.Errno) {
	t.Helper()
	if e != want || !decimal.Same(got, api.Datum{}) {
		t.Fatalf("%s: %v and error %d, not error %d", what, got, e, want)
	}
}

// checkCohort checks the exponents of a datum's cohort.
func checkCohort(t *testing.T, d api.Datum, least, greatest int) {
	t.Helper()
	if lo, hi, e := decimal.Cohort(d); lo != least || hi != greatest || e != api.OK {
		t.Fatalf("Cohort of %v: %d, %d, error %d, not %d, %d", d, lo, hi, e, least, greatest)
	}
}

func TestParams(t *testing.T) { // D1
	for _, x := range forms() {
		if p, lo, hi, e := decimal.Params(x.f); p != x.p || lo != x.qmin || hi != x.qmax || e != api.OK {
			t.Errorf("format %d: %d, %d, %d, error %d", x.f, p, lo, hi, e)
		}
	}
	for _, f := range []int{-1 << 63, -1, 0, 1, api.FmQuad, 9, 1<<32 + api.FmDec32} {
		if p, lo, hi, e := decimal.Params(f); p != 0 || lo != 0 || hi != 0 || e != api.ErrArg {
			t.Errorf("format %d: %d, %d, %d, error %d", f, p, lo, hi, e)
		}
	}
}

func TestCheck(t *testing.T) { // D1
	for _, x := range forms() {
		for _, d := range x.data() {
			if e := decimal.Check(d); e != api.OK {
				t.Fatalf("Check of %v: error %d", d, e)
			}
		}
		for _, d := range x.invalid() {
			if e := decimal.Check(d); e != api.ErrArg {
				t.Fatalf("Check of %v: error %d", d, e)
			}
		}
	}
}

func TestPack(t *testing.T) { // D2
	for n := range 1000 {
		bits, e := decimal.Pack(n)
		if got := fmt.Sprintf("%010b", bits); got != packed()[fmt.Sprintf("%03d", n)] || e != api.OK {
			t.Errorf("Pack(%d): %s, error %d", n, got, e)
		}
	}
	for _, n := range []int{-1 << 63, -1, 1000, 1001, 1023, 1<<63 - 1} {
		if bits, e := decimal.Pack(n); bits != 0 || e != api.ErrArg {
			t.Errorf("Pack(%d): %d, error %d", n, bits, e)
		}
	}
}

func TestUnpack(t *testing.T) { // D2
	for bits := range 1024 {
		text := fmt.Sprintf("%010b", bits)
		n, is, e := decimal.Unpack(bits)
		digits := fmt.Sprintf("%03d", n)
		if digits != meanings()[text] || is != (packed()[digits] == text) || e != api.OK {
			t.Errorf("Unpack(%s): %s, %v, error %d", text, digits, is, e)
		}
	}
	for _, bits := range []int{-1 << 63, -1, 1024, 1025, 1<<63 - 1} {
		if n, is, e := decimal.Unpack(bits); n != 0 || is || e != api.ErrArg {
			t.Errorf("Unpack(%d): %d, %v, error %d", bits, n, is, e)
		}
	}
}

func TestDecode(t *testing.T) { // D3
	for _, x := range forms() {
		for _, enc := range encodings() {
			for _, r := range x.raws() {
				want, canonical := x.meaning(r, enc)
				d, is, e := decimal.Decode(x.f, enc, r)
				checkEqual(t, "Decode of "+x.written(r), d, e, want)
				if is != canonical {
					t.Fatalf("bits %s, encoding %d, are canonical: %v", x.written(r), enc, is)
				}
			}
			for _, r := range x.tooLarge() {
				d, is, e := decimal.Decode(x.f, enc, r)
				checkFailed(t, "Decode", d, e, api.ErrArg)
				if is {
					t.Fatal("with an error, bits are canonical")
				}
			}
		}
	}
}

func TestEncode(t *testing.T) { // D3
	for _, x := range forms() {
		for _, enc := range encodings() {
			for _, d := range x.data() {
				if r, e := decimal.Encode(d, enc); r != x.encoded(d, enc) || e != api.OK {
					t.Fatalf("Encode of %v, encoding %d: %s, error %d", d, enc, x.written(r), e)
				}
			}
		}
	}
}

func TestRecode(t *testing.T) { // D3
	for _, x := range forms() {
		for _, from := range encodings() {
			for _, to := range encodings() {
				for _, r := range x.raws() {
					d, _ := x.meaning(r, from)
					if got, e := decimal.Recode(x.f, from, to, r); got != x.encoded(d, to) || e != api.OK {
						t.Fatalf("Recode of %s from %d to %d: %s, error %d", x.written(r), from, to, x.written(got), e)
					}
				}
				for _, r := range x.tooLarge() {
					if got, e := decimal.Recode(x.f, from, to, r); got != (api.Raw{}) || e != api.ErrArg {
						t.Fatalf("Recode of %x: %x, error %d", r, got, e)
					}
				}
			}
		}
	}
}

func TestKnownBits(t *testing.T) { // D3: data and bits of the larger formats that are known from elsewhere
	for _, c := range []struct {
		f, enc, exp int
		coef, bits  string
	}{
		{api.FmDec64, api.EnPacked, 0, "1", "2238000000000001"},
		{api.FmDec64, api.EnBinary, 0, "1", "31c0000000000001"},
		{api.FmDec64, api.EnPacked, -2, "750", "22300000000003d0"},
		{api.FmDec64, api.EnPacked, 369, "9999999999999999", "77fcff3fcff3fcff"},
		{api.FmDec64, api.EnBinary, 369, "9999999999999999", "77fb86f26fc0ffff"},
		{api.FmDec128, api.EnPacked, 0, "1", "22080000000000000000000000000001"},
		{api.FmDec128, api.EnBinary, 0, "1", "30400000000000000000000000000001"},
		{api.FmDec128, api.EnPacked, 6111, "9999999999999999999999999999999999", "77ffcff3fcff3fcff3fcff3fcff3fcff"},
		{api.FmDec128, api.EnBinary, 6111, "9999999999999999999999999999999999", "5fffed09bead87c0378d8e63ffffffff"},
	} {
		d := api.Datum{Fmt: c.f, Class: api.ClFinite, Coef: natural(number(c.coef, 10)), Exp: c.exp}
		r, e := decimal.Encode(d, c.enc)
		if r != raw(number(c.bits, 16).Text(2)) || e != api.OK {
			t.Errorf("%s times 10^%d: %x, error %d, not %s", c.coef, c.exp, r, e, c.bits)
		}
	}
}

// cohort returns the exponents of a finite datum's cohort, by the texts of its coefficient.
func (x form) cohort(d api.Datum) (least, greatest int) {
	text := oracle(d.Coef).String()
	if text == "0" {
		return x.qmin, x.qmax
	}
	greatest = d.Exp
	for last := len(text); text[last-1] == '0'; last-- {
		greatest++
	}
	return max(d.Exp-(x.p-len(text)), x.qmin), min(greatest, x.qmax)
}

func TestCohort(t *testing.T) { // D4
	for _, x := range forms() {
		for _, d := range x.numbers() {
			least, greatest := x.cohort(d)
			checkCohort(t, d, least, greatest)
		}
		for _, d := range x.others() {
			if least, greatest, e := decimal.Cohort(d); least != 0 || greatest != 0 || e != api.ErrType {
				t.Fatalf("Cohort of %v: %d, %d, error %d", d, least, greatest, e)
			}
		}
	}
}

func TestMember(t *testing.T) { // D4
	for _, x := range forms() {
		for _, d := range x.numbers() {
			least, greatest := x.cohort(d)
			for _, exp := range []int{least, least + 1, d.Exp, greatest - 1, greatest} {
				member, e := decimal.Member(d, exp)
				if exp < least || exp > greatest {
					checkFailed(t, "Member", member, e, api.ErrNone)
					continue
				}
				coef := scaled(oracle(d.Coef), d.Exp-exp)
				if !coef.IsInt() {
					t.Fatal(coef)
				}
				checkEqual(t, "Member", member, e, x.finiteDatum(d.Neg, coef.Num(), exp))
			}
			for _, exp := range []int{-1 << 63, x.qmin - 1, least - 1, greatest + 1, x.qmax + 1, 1<<63 - 1} {
				member, e := decimal.Member(d, exp)
				checkFailed(t, "Member of "+strconv.Itoa(exp), member, e, api.ErrNone)
			}
		}
		for _, d := range x.others() {
			for _, exp := range []int{0, 1, 1 << 40} { // ErrType comes ahead of ErrNone
				member, e := decimal.Member(d, exp)
				checkFailed(t, "Member", member, e, api.ErrType)
			}
		}
	}
}

func TestNormal(t *testing.T) { // D4
	for _, x := range forms() {
		for _, d := range x.numbers() {
			_, exp := x.cohort(d)
			if len(d.Coef) == 0 {
				exp = 0
			}
			normal, e := decimal.Normal(d)
			checkEqual(t, "Normal", normal, e, x.finiteDatum(d.Neg, scaled(oracle(d.Coef), d.Exp-exp).Num(), exp))
		}
		for _, d := range x.others() {
			normal, e := decimal.Normal(d)
			checkEqual(t, "Normal", normal, e, d)
		}
	}
}

func TestQuantumAndValue(t *testing.T) { // D5
	for _, x := range forms() {
		for _, d := range x.numbers() {
			if q := bigRat(sure[api.Rat](t)(decimal.Quantum(d))); q.Cmp(scaled(big.NewInt(1), d.Exp)) != 0 {
				t.Fatalf("Quantum of %v: %v", d, q)
			}
			v, e := decimal.Value(d)
			if bigRat(v).Cmp(scaled(signed(d), d.Exp)) != 0 || e != api.OK || v.Num.Neg && len(v.Num.Abs) == 0 || bigRat(v).Denom().Cmp(oracle(v.Den)) != 0 {
				t.Fatalf("Value of %v: %v, error %d", d, v, e)
			}
		}
		for _, d := range x.others() {
			q, e := decimal.Quantum(d)
			v, other := decimal.Value(d)
			if e != api.ErrType || other != api.ErrType || len(q.Den) > 0 || len(v.Den) > 0 {
				t.Fatalf("Quantum and Value of %v: errors %d and %d", d, e, other)
			}
		}
	}
}

func TestSame(t *testing.T) { // D5
	d := api.Datum{Fmt: 6, Class: 1, Neg: true, Coef: api.Nat{5, 6}, Exp: -7}
	others := []api.Datum{d, d, d, d, d, d, d, {}}
	others[0].Fmt, others[1].Class, others[2].Neg, others[3].Exp = 7, 2, false, -8
	others[4].Coef, others[5].Coef, others[6].Coef = api.Nat{5}, api.Nat{5, 7}, api.Nat{5, 6, 0}
	for i, other := range others {
		if decimal.Same(d, other) || decimal.Same(other, d) {
			t.Errorf("%v is the same as %d, %v", d, i, other)
		}
		if !decimal.Same(other, other) {
			t.Errorf("%v is another one than itself", other)
		}
	}
	other := d
	other.Coef = api.Nat{5, 6}
	if !decimal.Same(d, other) {
		t.Error("equal data are different")
	}
	d.Coef, other.Coef = nil, api.Nat{}
	if !decimal.Same(d, other) || !decimal.Same(other, d) {
		t.Error("nil and empty coefficients are different")
	}
}
