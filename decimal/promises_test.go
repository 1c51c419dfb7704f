package decimal_test

import (
	"math/big"
	"slices"
	"testing"

	"soroban/api"
	"soroban/decimal"
)

func TestTenBits(t *testing.T) { // P6.2
	for n := range 1000 {
		bits := sure[int](t)(decimal.Pack(n))
		if again, is, e := decimal.Unpack(bits); again != n || !is || e != api.OK {
			t.Errorf("Unpack of Pack of %d: %d, %v, error %d", n, again, is, e)
		}
	}
	others := 0
	for bits := range 1024 {
		n, is, e := decimal.Unpack(bits)
		if n < 0 || n >= 1000 || e != api.OK {
			t.Errorf("Unpack of %d: %d, error %d", bits, n, e)
		}
		if is != (sure[int](t)(decimal.Pack(n)) == bits) {
			t.Errorf("Pack returns %d: %v", bits, is)
		}
		if !is {
			others++
		}
	}
	if others != 24 {
		t.Errorf("Pack does not return %d of the bits", others)
	}
}

func TestBitsAndData(t *testing.T) { // P6.3
	for _, x := range forms() {
		for _, enc := range encodings() {
			for _, d := range x.data() {
				r := sure[api.Raw](t)(decimal.Encode(d, enc))
				again, is, e := decimal.Decode(x.f, enc, r)
				checkEqual(t, "Decode of Encode", again, e, d)
				if !is || !decimal.Same(again, d) {
					t.Fatalf("the bits %s of %v are not canonical", x.written(r), d)
				}
			}
			for _, r := range x.raws() {
				d, is, e := decimal.Decode(x.f, enc, r)
				if e != api.OK || decimal.Check(d) != api.OK {
					t.Fatalf("bits %s mean %v, error %d", x.written(r), d, e)
				}
				if again := sure[api.Raw](t)(decimal.Encode(d, enc)); is != (again == r) {
					t.Fatalf("bits %s are canonical: %v, but those of %v are %s", x.written(r), is, d, x.written(again))
				}
			}
		}
	}
}

func TestEncodings(t *testing.T) { // P6.4
	for _, x := range forms() {
		recode := func(from, to int, r api.Raw) api.Raw {
			t.Helper()
			return sure[api.Raw](t)(decimal.Recode(x.f, from, to, r))
		}
		for _, from := range encodings() {
			for _, r := range x.raws() {
				d, is, e := decimal.Decode(x.f, from, r)
				if e != api.OK {
					t.Fatal(e)
				}
				canonical := sure[api.Raw](t)(decimal.Encode(d, from))
				for _, to := range encodings() {
					if back := recode(to, from, recode(from, to, r)); back != canonical {
						t.Fatalf("%s to encoding %d and back: %s", x.written(r), to, x.written(back))
					}
				}
				if same := recode(from, from, r); same != canonical || is != (same == r) {
					t.Fatalf("%s, which is canonical: %v, to the same encoding: %s", x.written(r), is, x.written(same))
				}
			}
		}
	}
}

// members returns the members of a finite datum's cohort; of 0, with thousands of them, each 97th one.
func members(t *testing.T, d api.Datum) []api.Datum {
	t.Helper()
	least, greatest, e := decimal.Cohort(d)
	if e != api.OK {
		t.Fatal(e)
	}
	step := 1
	if len(d.Coef) == 0 {
		step = 97
	}
	var list []api.Datum
	for exp := least; exp <= greatest; exp += step {
		list = append(list, sure[api.Datum](t)(decimal.Member(d, exp)))
	}
	return list
}

// haveOneValue reports whether two finite data have the same value.
func haveOneValue(t *testing.T, a, b api.Datum) bool {
	t.Helper()
	v, w := sure[api.Rat](t)(decimal.Value(a)), sure[api.Rat](t)(decimal.Value(b))
	return v.Num.Neg == w.Num.Neg && slices.Equal(v.Num.Abs, w.Num.Abs) && slices.Equal(v.Den, w.Den)
}

func TestCohorts(t *testing.T) { // P6.5
	for _, x := range forms() {
		for i, d := range x.numbers() {
			least, greatest, e := decimal.Cohort(d)
			if digits := len(oracle(d.Coef).String()); len(d.Coef) > 0 && least != max(d.Exp-(x.p-digits), x.qmin) || e != api.OK {
				t.Fatalf("the least exponent of %v is %d, error %d", d, least, e)
			}
			if d.Exp < least || d.Exp > greatest || least < x.qmin || greatest > x.qmax {
				t.Fatalf("the exponents of %v: from %d to %d", d, least, greatest)
			}
			list := members(t, d)
			for k, member := range list {
				checkCohort(t, member, least, greatest)
				if member.Neg != d.Neg || decimal.Check(member) != api.OK {
					t.Fatalf("%v is a member of the cohort of %v", member, d)
				}
				if i%16 == 0 && !haveOneValue(t, member, d) {
					t.Fatalf("%v has another value than %v", member, d)
				}
				back := sure[api.Datum](t)(decimal.Member(member, d.Exp))
				other := list[(k+5)%len(list)]
				if !decimal.Same(back, d) || !decimal.Same(sure[api.Datum](t)(decimal.Member(member, other.Exp)), other) {
					t.Fatalf("%v and %v have different cohorts", d, member)
				}
			}
		}
	}
}

func TestOneCohort(t *testing.T) { // P6.5: data with one value, sign and format
	x := forms()[0]
	found := 0
	for _, neg := range []bool{false, true} {
		for _, coef := range []int64{0, 1, 7, 10, 20, 700, 1000, 120000, 999999, 1000000, 9999999} {
			for _, exp := range []int{x.qmin, 0, x.qmax} {
				d := x.finiteDatum(neg, big.NewInt(coef), exp)
				least, greatest, e := decimal.Cohort(d)
				for q := exp - 10; q <= exp+10; q++ { // all data with the value of d that there are
					other := scaled(big.NewInt(coef), exp-q)
					isOne := other.IsInt() && other.Num().Cmp(power(10, x.p, 0)) < 0 && q >= x.qmin && q <= x.qmax
					if isOne != (q >= least && q <= greatest) || e != api.OK {
						t.Fatalf("the exponents of %v: from %d to %d, error %d", d, least, greatest, e)
					}
					if isOne {
						found++
						member, e := decimal.Member(d, q)
						checkEqual(t, "Member", member, e, x.finiteDatum(neg, other.Num(), q))
					}
				}
			}
		}
	}
	if found < 200 {
		t.Errorf("just %d members", found)
	}
}

func TestNormalPromise(t *testing.T) { // P6.6
	for _, x := range forms() {
		for _, d := range x.numbers() {
			normal := sure[api.Datum](t)(decimal.Normal(d))
			for _, member := range append(members(t, d), normal) {
				if again := sure[api.Datum](t)(decimal.Normal(member)); !decimal.Same(again, normal) {
					t.Fatalf("Normal of %v: %v, of %v: %v", d, normal, member, again)
				}
			}
			text := oracle(normal.Coef).String()
			if text[len(text)-1] == '0' && normal.Exp != x.qmax && text != "0" {
				t.Fatalf("Normal of %v: %v", d, normal)
			}
		}
		for _, d := range x.others() {
			normal := sure[api.Datum](t)(decimal.Normal(d))
			if again := sure[api.Datum](t)(decimal.Normal(normal)); !decimal.Same(again, d) {
				t.Fatalf("Normal of %v, twice: %v", d, again)
			}
		}
	}
}

func TestValues(t *testing.T) { // P6.7
	for _, x := range forms() {
		for i, d := range x.numbers() {
			quantum := bigRat(sure[api.Rat](t)(decimal.Quantum(d)))
			want := new(big.Rat).SetInt(signed(d))
			if v := value(t, d); v.Cmp(want.Mul(want, quantum)) != 0 {
				t.Fatalf("Value of %v: %v", d, v)
			}
			if i%16 != 0 {
				continue
			}
			for _, member := range members(t, d) {
				if v := new(big.Rat).Quo(value(t, member), scaled(big.NewInt(1), member.Exp)); !v.IsInt() {
					t.Fatalf("the value of %v is no multiple of 10^%d", member, member.Exp)
				}
			}
		}
	}
}
