package round_test

import (
	"fmt"
	"math/big"
	"slices"
	"testing"

	"soroban/api"
	"soroban/round"
)

// rat rounds a number; it never fails.
func rat(t *testing.T, x form, a api.Rat, neg bool, dir, prefer int) api.Result {
	t.Helper()
	r, e := round.Rat(a, neg, x.f, dir, prefer)
	if e != api.OK {
		t.Fatalf("Rat of %v in format %d: %v", a, x.f, e)
	}
	return r
}

func TestRat(t *testing.T) { // P7.1
	for _, x := range forms() {
		for i, s := range x.samples() {
			for _, dir := range directions() {
				prefers := x.prefers()
				for k, prefer := range prefers {
					if k != i%len(prefers) && i%10 != 0 {
						continue
					}
					neg := (i+k)%2 == 0
					want := x.rounded(s.v, neg, dir, prefer)
					got := rat(t, x, s.a, neg, dir, prefer)
					if !same(got.D, want.D) || got.Flags != want.Flags {
						t.Fatalf("Rat(%v, %v, %d, %d, %d): %v, not %v", s.v.RatString(), neg, x.f, dir, prefer, got, want)
					}
				}
			}
		}
	}
}

func TestRatOfZero(t *testing.T) { // P7.1: the sign that is given, and the preferred exponent, or the bound that it exceeds
	zero := api.Rat{Den: api.Nat{1}}
	for _, x := range forms() {
		for _, prefer := range append(x.prefers(), 17) {
			for _, dir := range directions() {
				for _, neg := range []bool{false, true} {
					want := api.Datum{Fmt: x.f, Class: api.ClFinite, Neg: neg, Exp: x.qmin}
					if x.b == 10 {
						want.Exp = max(x.qmin, min(prefer, x.qmax))
					}
					if got := rat(t, x, zero, neg, dir, prefer); !same(got.D, want) || got.Flags != 0 {
						t.Errorf("format %d, prefer %d: %v", x.f, prefer, got)
					}
				}
			}
		}
	}
}

func TestPreferred(t *testing.T) { // P7.1: of decimal data with the value, the one whose exponent is nearest
	for _, c := range []struct {
		x            string
		format       int
		prefer, coef int
		exp          int
	}{
		{"12", api.FmDec32, 0, 12, 0},
		{"12", api.FmDec32, -2, 1200, -2},
		{"12", api.FmDec32, -100, 1200000, -5},
		{"12", api.FmDec32, 3, 12, 0},
		{"1200", api.FmDec32, 3, 12, 2},
		{"1200", api.FmDec32, 1, 120, 1},
		{"1e96", api.FmDec32, 200, 1000000, 90},
		{"7e90", api.FmDec32, 200, 7, 90},
		{"1e-101", api.FmDec32, 0, 1, -101},
		{"1e-95", api.FmDec32, -200, 1000000, -101},
		{"1e-96", api.FmDec32, -200, 100000, -101},
		{"1e384", api.FmDec64, 0, 1e15, 369},
		{"5e-398", api.FmDec64, 0, 5, -398},
		{"1/8", api.FmDec64, 0, 125, -3},
		{"1/1024", api.FmDec64, 0, 9765625, -10},
	} {
		want := api.Datum{Fmt: c.format, Class: api.ClFinite, Coef: natural(integer(c.coef)), Exp: c.exp}
		for _, dir := range directions() {
			if got := rat(t, form{f: c.format}, rational(parsed(c.x)), true, dir, c.prefer); !same(got.D, want) || got.Flags != 0 {
				t.Errorf("%s, prefer %d: %v", c.x, c.prefer, got)
			}
		}
	}
}

func TestInexactHasAllDigits(t *testing.T) { // P7.1: a preferred exponent has no meaning where the result is not exact
	for _, prefer := range dec32().prefers() {
		got := rat(t, dec32(), rational(parsed("99999995")), false, api.RdEven, prefer)
		if want := (api.Datum{Fmt: api.FmDec32, Class: api.ClFinite, Coef: api.Nat{1000000}, Exp: 2}); !same(got.D, want) || got.Flags != api.FlInexact {
			t.Error(prefer, got)
		}
	}
}

// beside returns a number of the sign of v whose magnitude is greater (sticky 1) or less (-1), by less than is seen in any format.
func beside(v *big.Rat, sticky int) *big.Rat {
	factor := new(big.Rat).Mul(toThe(2, -300), fraction(sticky, 1))
	return factor.Mul(factor.Add(factor, fraction(1, 1)), v)
}

// dyads returns dyads near the data of a format, and others.
func (x form) dyads() []api.Dyad {
	list := []api.Dyad{{}}
	for _, d := range x.data() {
		for _, more := range []int{0, 1, 2, 3, -1, -2, 4} { // in quarters of the last digit
			m := new(big.Int).Add(new(big.Int).Lsh(d[0], 2), integer(more))
			list = append(list, dyadOf(m, int(d[1].Int64())-2), dyadOf(m.Neg(m), int(d[1].Int64())-2))
			far := new(big.Int).Add(new(big.Int).Lsh(d[0], 70), integer(more))
			list = append(list, dyadOf(far, int(d[1].Int64())-70))
		}
	}
	return list
}

func TestDyad(t *testing.T) { // P7.2
	for _, x := range binaryForms() {
		for _, d := range x.dyads() {
			v := ofDyad(d)
			for _, sticky := range []int{0, 1, -1} {
				if v.Sign() == 0 && sticky != 0 {
					continue
				}
				w := v
				if sticky != 0 {
					w = beside(v, sticky)
				}
				for i, dir := range directions() {
					neg := i%2 == 0
					want := x.rounded(w, neg, dir, 0)
					got, e := round.Dyad(d, sticky, neg, x.f, dir)
					if e != api.OK || !same(got.D, want.D) || got.Flags != want.Flags {
						t.Fatalf("Dyad(%v, %d, %v, %d, %d): %v %v, not %v", d, sticky, neg, x.f, dir, got, e, want)
					}
				}
			}
		}
	}
}

func TestDyadIsRat(t *testing.T) { // P7.2: for sticky 0 the number x
	for _, x := range binaryForms() {
		for _, d := range x.dyads() {
			for _, dir := range directions() {
				for _, neg := range []bool{false, true} {
					got, e := round.Dyad(d, 0, neg, x.f, dir)
					want := rat(t, x, rational(ofDyad(d)), neg, dir, 0)
					if e != api.OK || !same(got.D, want.D) || got.Flags != want.Flags {
						t.Fatalf("Dyad(%v, 0, %v, %d, %d): %v %v, not %v", d, neg, x.f, dir, got, e, want)
					}
				}
			}
		}
	}
}

func TestFarDyads(t *testing.T) { // P7.2: dyads have far exponents, and many digits
	tiny, huge := dyadOf(integer(-1), -api.MaxExpo), dyadOf(integer(1), api.MaxExpo)
	long := dyadOf(new(big.Int).Sub(power(2, 32768), integer(1)), -32768) // nearly 1
	least := api.FlInexact + api.FlUnderflow
	for _, x := range binaryForms() {
		for _, sticky := range []int{0, 1, -1} {
			for _, dir := range directions() {
				want := api.Datum{Fmt: x.f, Class: api.ClFinite, Neg: true, Exp: x.qmin}
				if dir == api.RdDown {
					want.Coef = api.Nat{1}
				}
				if got, e := round.Dyad(tiny, sticky, false, x.f, dir); e != api.OK || !same(got.D, want) || got.Flags != least {
					t.Error(x.f, sticky, dir, got, e)
				}
				if got, e := round.Dyad(huge, sticky, false, x.f, dir); e != api.OK || !same(got.D, x.overflow(false, dir).D) || got.Flags != x.overflow(false, dir).Flags {
					t.Error(x.f, sticky, dir, got, e)
				}
				one := api.Datum{Fmt: x.f, Class: api.ClFinite, Coef: natural(power(2, x.p-1)), Exp: 1 - x.p}
				if dir == api.RdZero || dir == api.RdDown {
					one.Coef, one.Exp = natural(x.coefficient(-1)), -x.p
				}
				if got, e := round.Dyad(long, sticky, false, x.f, dir); e != api.OK || !same(got.D, one) || got.Flags != api.FlInexact {
					t.Error(x.f, sticky, dir, got, e)
				}
			}
		}
	}
}

// counts returns numbers of digits.
func counts() []int { return []int{1, 2, 3, 17, 64, 113} }

func TestBits(t *testing.T) { // P7.3
	for i, s := range half().samples() {
		for k, bits := range append(counts(), 4096) {
			if k != i%7 && i%20 != 0 {
				continue
			}
			for _, dir := range directions() {
				want := api.Dyad{}
				if s.v.Sign() != 0 {
					c, q := digitsOf(s.v, 2, bits, dir)
					want = dyadOf(c, q)
				}
				got, e := round.Bits(s.a, bits, dir)
				if e != api.OK || got.Exp != want.Exp || got.Man.Neg != want.Man.Neg || !slices.Equal(got.Man.Abs, want.Man.Abs) {
					t.Fatalf("Bits(%v, %d, %d): %v %v, not %v", s.v.RatString(), bits, dir, got, e, want)
				}
			}
		}
	}
}

// digitsOf returns a number other than 0 rounded to so many digits of a base.
func digitsOf(v *big.Rat, b, digits, dir int) (coef *big.Int, exp int) {
	x := form{b: b, p: digits, qmin: -1 << 30}
	m := new(big.Rat).Abs(v)
	q := x.lastExponent(m)
	c, _ := part(m, b, q, v.Sign() < 0, dir)
	if c.Cmp(x.coefficient(0)) == 0 {
		c, q = power(b, digits-1), q+1
	}
	return c.Mul(c, integer(v.Sign())), q
}

func TestDigits(t *testing.T) { // P7.3
	for i, s := range dec32().samples() {
		for k, digits := range append(counts(), 4096) {
			if k != i%7 && i%20 != 0 {
				continue
			}
			for _, dir := range directions() {
				want, exp := new(big.Int), 0
				if s.v.Sign() != 0 {
					want, exp = digitsOf(s.v, 10, digits, dir)
				}
				got, n, e := round.Digits(s.a, digits, dir)
				if e != api.OK || n != exp || got.Neg != (want.Sign() < 0) || !slices.Equal(got.Abs, natural(want)) {
					t.Fatalf("Digits(%v, %d, %d): %v %d %v, not %v %d", s.v.RatString(), digits, dir, got, n, e, want, exp)
				}
				if text := bigInt(got.Abs).String(); len(text) != digits && s.v.Sign() != 0 {
					t.Fatalf("Digits(%v, %d, %d): %s", s.v.RatString(), digits, dir, text)
				}
			}
		}
	}
}

func TestOverflow(t *testing.T) { // P7.4
	for _, x := range forms() {
		for _, dir := range directions() {
			for _, neg := range []bool{false, true} {
				got, e := round.Overflow(neg, x.f, dir)
				want := x.overflow(neg, dir)
				if e != api.OK || !same(got.D, want.D) || got.Flags != want.Flags {
					t.Errorf("Overflow(%v, %d, %d): %v %v, not %v", neg, x.f, dir, got, e, want)
				}
			}
		}
	}
}

func TestExact(t *testing.T) { // P7.5
	for _, x := range forms() {
		for _, s := range x.samples() {
			want := s.v.Sign() == 0
			if !want {
				m := new(big.Rat).Abs(s.v)
				q := x.lastExponent(m)
				want = q <= x.qmax && scaled(m, x.b, -q).IsInt()
			}
			if got, e := round.Exact(s.a, x.f); got != want || e != api.OK {
				t.Fatalf("Exact(%v, %d): %v %v", s.v.RatString(), x.f, got, e)
			}
		}
	}
}

func TestAround(t *testing.T) { // P7.5
	for _, x := range forms() {
		for _, s := range x.samples() {
			lo, hi, e := round.Around(s.a, x.f)
			below := x.rounded(s.v, false, api.RdDown, x.qmin).D
			above := x.rounded(s.v, false, api.RdUp, x.qmin).D
			if e != api.OK || !same(lo, below) || !same(hi, above) {
				t.Fatalf("Around(%v, %d): %v %v %v, not %v %v", s.v.RatString(), x.f, lo, hi, e, below, above)
			}
		}
	}
}

func TestExamples(t *testing.T) { // the section Examples
	in, tiny, over := api.FlInexact, api.FlInexact+api.FlUnderflow, api.FlInexact+api.FlOverflow
	for _, c := range []struct {
		x                   string
		format, dir, prefer int
		want                string
	}{
		{"1/3", api.FmHalf, api.RdEven, 0, fmt.Sprint(1365, -12, in)},
		{"1/3", api.FmHalf, api.RdUp, 0, fmt.Sprint(1366, -12, in)},
		{"1/10", api.FmDec32, api.RdEven, 0, fmt.Sprint(1, -1, 0)},
		{"1/10", api.FmDec32, api.RdEven, -3, fmt.Sprint(100, -3, 0)},
		{"2/3", api.FmDec32, api.RdZero, 0, fmt.Sprint(6666666, -7, in)},
		{"65520", api.FmHalf, api.RdEven, 0, fmt.Sprint("infinity ", over)},
		{"65520", api.FmHalf, api.RdZero, 0, fmt.Sprint(2047, 5, in)},
		{"65519", api.FmHalf, api.RdEven, 0, fmt.Sprint(2047, 5, in)},
		{"1/33554432", api.FmHalf, api.RdEven, 0, fmt.Sprint(0, -24, tiny)},
		{"1/33554432", api.FmHalf, api.RdAway, 0, fmt.Sprint(1, -24, tiny)},
		{"3/16777216", api.FmHalf, api.RdEven, 0, fmt.Sprint(3, -24, 0)},
	} {
		r := rat(t, form{f: c.format}, rational(parsed(c.x)), true, c.dir, c.prefer)
		got := fmt.Sprint(bigInt(r.D.Coef), r.D.Exp, r.Flags)
		if r.D.Class == api.ClInf {
			got = fmt.Sprint("infinity ", r.Flags)
		}
		if got != c.want || r.D.Neg {
			t.Errorf("Rat(%s, %d, %d): %s, not %s", c.x, c.format, c.dir, got, c.want)
		}
	}
	zero := rat(t, dec32(), api.Rat{Den: api.Nat{1}}, true, api.RdEven, 200)
	if !zero.D.Neg || len(zero.D.Coef) > 0 || zero.D.Exp != 90 || zero.Flags != 0 {
		t.Error(zero)
	}
	odd := dyadOf(integer(2049), 0)
	for sticky, coef := range []uint32{1024, 1025} {
		r, _ := round.Dyad(odd, sticky, false, api.FmHalf, api.RdEven)
		if r.D.Coef[0] != coef || r.D.Exp != 1 || r.Flags != in {
			t.Error(sticky, r)
		}
	}
	for dir, want := range map[int]int64{api.RdEven: 4, api.RdUp: 6} {
		d, _ := round.Bits(rational(parsed("5")), 2, dir)
		if ofDyad(d).Cmp(new(big.Rat).SetInt64(want)) != 0 {
			t.Error(dir, d)
		}
	}
	if c, n, e := round.Digits(rational(parsed("-123456")), 3, api.RdDown); signedInt(c).Int64() != -124 || n != 3 || e != api.OK {
		t.Error(c, n, e)
	}
}
