package round_test

import (
	"math/big"
	"math/rand"
	"slices"
	"sort"
	"testing"

	"soroban/api"
	"soroban/binary"
	"soroban/round"
)

// infinite stands for the infinity, in units of which 2^26 are 1.
const infinite = 65536 << 26

// halves returns the magnitudes of all halves in units of which 2^26 are 1, by their places; behind them that of the infinity.
func halves() []int {
	list := []int{}
	for coef := range 1024 {
		list = append(list, coef<<2)
	}
	for exp := 2; exp <= 31; exp++ {
		for coef := 1024; coef < 2048; coef++ {
			list = append(list, coef<<exp)
		}
	}
	return append(list, infinite)
}

// place returns the place of the half that a magnitude, which lies at or behind the one with place i, becomes, as P7.6 says it.
func place(list []int, i, m int, neg bool, dir int) int {
	below, above := m-list[i], list[i+1]-m
	switch {
	case below == 0 || dir == api.RdZero || dir == api.RdUp && neg || dir == api.RdDown && !neg:
		return i
	case dir == api.RdUp || dir == api.RdDown || above < below:
		return i + 1
	case below < above || dir == api.RdEven && i%2 == 0:
		return i
	}
	return i + 1
}

func TestAllHalves(t *testing.T) { // P7.6: no other half is nearer on the side that the direction says
	list := halves()
	for i := 0; i+1 < len(list); i += 1 + i%3 {
		gap := list[i+1] - list[i]
		for k, m := range []int{list[i], list[i] + 1, list[i] + gap/2 - 1, list[i] + gap/2, list[i] + gap/2 + 1, list[i+1] - 1} {
			neg := (i+k)%2 == 0
			v := fraction(m, 1<<26)
			if neg {
				v.Neg(v)
			}
			for _, dir := range directions() {
				got := rat(t, half(), rational(v), neg, dir, 0)
				at, e := binary.Index(got.D)
				want := place(list, i, m, neg, dir)
				if e != api.OK || bigInt(at.Abs).Int64() != int64(want) || got.D.Neg != neg {
					t.Fatalf("%v, direction %d: %v, not the half with place %d", v, dir, got, want)
				}
			}
		}
	}
}

// gaps returns how far the magnitudes of the data next to a finite one are away from its own, toward 0 and away from it.
func (x form) gaps(m *big.Rat) (inward, outward *big.Rat) {
	q := x.lastExponent(m)
	inward, outward = toThe(x.b, q), toThe(x.b, q)
	if m.Cmp(toThe(x.b, x.p-1+q)) == 0 && q > x.qmin {
		inward = toThe(x.b, q-1)
	}
	return inward, outward
}

// isNearest reports whether the value of a finite datum is what v becomes in a direction.
func (x form) isNearest(v, w *big.Rat, dir int) bool {
	sign := w.Sign()
	if sign == 0 {
		sign = v.Sign()
	}
	beyond := new(big.Rat).Sub(v, w) // of w, away from 0
	if sign < 0 {
		beyond.Neg(beyond)
	}
	m := new(big.Rat).Abs(w)
	inward, outward := x.gaps(m)
	switch {
	case dir == api.RdZero || dir == api.RdDown && sign > 0 || dir == api.RdUp && sign < 0:
		return beyond.Sign() >= 0 && (beyond.Cmp(outward) < 0 || m.Cmp(x.greatest()) == 0)
	case dir == api.RdDown || dir == api.RdUp:
		return beyond.Sign() <= 0 && inward.Neg(inward).Cmp(beyond) < 0
	}
	beyond.Mul(beyond, fraction(2, 1))
	return beyond.Cmp(outward) <= 0 && inward.Neg(inward).Cmp(beyond) <= 0
}

func TestCorrectlyRounded(t *testing.T) { // P7.6
	for _, x := range forms() {
		bound := new(big.Rat).Add(x.greatest(), scaled(fraction(1, 2), x.b, x.qmax))
		for _, s := range x.few(3) {
			m := new(big.Rat).Abs(s.v)
			for _, dir := range directions() {
				toNearest := dir == api.RdEven || dir == api.RdAway
				isLarge := toNearest && m.Cmp(bound) >= 0
				r := rat(t, x, s.a, false, dir, 0)
				switch {
				case r.D.Class == api.ClFinite && !isLarge && x.isNearest(s.v, x.value(r.D), dir):
				case r.D.Class == api.ClInf && (isLarge || !toNearest && m.Cmp(x.greatest()) > 0):
				default:
					t.Fatalf("%v, direction %d: %v", s.v.RatString(), dir, r)
				}
			}
		}
	}
}

// order compares the values of two data that are no NaNs.
func (x form) order(a, b api.Datum) int {
	far := new(big.Rat).Add(x.greatest(), fraction(1, 1))
	value := func(d api.Datum) *big.Rat {
		switch {
		case d.Class == api.ClFinite:
			return x.value(d)
		case d.Neg:
			return new(big.Rat).Neg(far)
		}
		return far
	}
	return value(a).Cmp(value(b))
}

func TestOrder(t *testing.T) { // P7.7
	for _, x := range forms() {
		list := slices.Clone(x.few(3))
		sort.Slice(list, func(i, k int) bool { return list[i].v.Cmp(list[k].v) < 0 })
		for _, dir := range directions() {
			var last api.Datum
			for i, s := range list {
				d := rat(t, x, s.a, false, dir, 0).D
				if i > 0 && x.order(last, d) > 0 {
					t.Fatalf("direction %d: %v, then %v of a number that is not less", dir, last, d)
				}
				last = d
			}
		}
	}
}

func TestRoundedAgain(t *testing.T) { // P7.7: the same, without flags
	for _, x := range forms() {
		for _, s := range x.few(5) {
			for _, dir := range directions() {
				d := rat(t, x, s.a, false, dir, 0).D
				if d.Class != api.ClFinite {
					continue
				}
				for _, other := range directions() {
					again := rat(t, x, rational(x.value(d)), d.Neg, other, d.Exp)
					if !same(again.D, d) || again.Flags != 0 {
						t.Fatalf("%v became %v", d, again)
					}
				}
			}
		}
	}
}

func TestMirrored(t *testing.T) { // P7.7: the negative number in the mirrored direction
	for _, x := range forms() {
		for i, s := range x.few(3) {
			neg := i%2 == 0
			for _, dir := range directions() {
				r := rat(t, x, s.a, neg, dir, 1)
				m := rat(t, x, rational(new(big.Rat).Neg(s.v)), !neg, mirrored(dir), 1)
				m.D.Neg = !m.D.Neg
				if !same(r.D, m.D) || r.Flags != m.Flags {
					t.Fatalf("%v, direction %d: %v, mirrored %v", s.v.RatString(), dir, r, m)
				}
			}
		}
	}
}

func TestFlags(t *testing.T) { // P7.8
	seen := map[int]int{}
	for _, x := range forms() {
		for _, s := range x.few(3) {
			var first api.Result
			for i, dir := range directions() {
				r := rat(t, x, s.a, true, dir, 0)
				seen[r.Flags]++
				inexact := r.D.Class != api.ClFinite || x.value(r.D).Cmp(s.v) != 0
				if inexact != (r.Flags&api.FlInexact != 0) {
					t.Fatalf("%v, direction %d: %v", s.v.RatString(), dir, r)
				}
				if i == 0 {
					first = r
				} else if !inexact && !same(r.D, first.D) {
					t.Fatalf("%v: %v and %v", s.v.RatString(), first, r)
				}
			}
		}
	}
	for _, flags := range []int{0, api.FlInexact, api.FlInexact + api.FlUnderflow, api.FlInexact + api.FlOverflow} {
		if seen[flags] == 0 {
			t.Error("this is no test of the flags", flags)
		}
		delete(seen, flags)
	}
	if len(seen) > 0 {
		t.Error("flags that are not together:", seen)
	}
}

func TestSticky(t *testing.T) { // P7.9, also from the other side
	for _, x := range binaryForms() {
		for _, s := range x.few(3) {
			for _, k := range []int{x.p + 2, x.p + 3, 2 * x.p, 4096} {
				for cut, sticky := range map[int]int{api.RdZero: 1, x.away(s.v): -1} {
					d, e := round.Bits(s.a, k, cut)
					if e != api.OK {
						t.Fatal(e)
					}
					if ofDyad(d).Cmp(s.v) == 0 {
						sticky = 0
					}
					for _, dir := range directions() {
						got, e := round.Dyad(d, sticky, true, x.f, dir)
						want := rat(t, x, s.a, true, dir, 0)
						if e != api.OK || !same(got.D, want.D) || got.Flags != want.Flags {
							t.Fatalf("%v by %d bits, sticky %d, direction %d: %v %v, not %v", s.v.RatString(), k, sticky, dir, got, e, want)
						}
					}
				}
			}
		}
	}
}

// away returns the direction in which a number goes away from 0.
func (x form) away(v *big.Rat) int {
	if v.Sign() < 0 {
		return api.RdDown
	}
	return api.RdUp
}

func TestTwice(t *testing.T) { // P7.10
	for _, s := range forms()[2].few(5) {
		for _, dir := range []int{api.RdZero, api.RdUp, api.RdDown} {
			for _, m := range counts() {
				long, _ := round.Bits(s.a, m, dir)
				between := rational(ofDyad(long))
				for _, k := range counts() {
					once, _ := round.Bits(s.a, k, dir)
					twice, e := round.Bits(between, k, dir)
					if k <= m && (e != api.OK || ofDyad(once).Cmp(ofDyad(twice)) != 0) {
						t.Fatalf("%v to %d bits, direction %d: %v, by %d bits %v", s.v.RatString(), k, dir, once, m, twice)
					}
				}
			}
		}
	}
}

func TestDigitsOfFew(t *testing.T) { // P7.10: a number with at most as many digits
	r := rand.New(rand.NewSource(2))
	for range 500 {
		n := 1 + r.Intn(50)
		v := new(big.Rat).SetInt(new(big.Int).Rand(r, power(10, n)))
		v = scaled(v, 10, r.Intn(200)-100)
		if r.Intn(2) == 0 {
			v.Neg(v)
		}
		for _, digits := range []int{n, n + 1, 100} {
			for _, dir := range directions() {
				coef, exp, e := round.Digits(rational(v), digits, dir)
				if got := scaled(new(big.Rat).SetInt(signedInt(coef)), 10, exp); e != api.OK || got.Cmp(v) != 0 {
					t.Fatalf("%v to %d digits: %v %d %v", v.RatString(), digits, coef, exp, e)
				}
			}
		}
	}
}

func TestNothingBetween(t *testing.T) { // P7.11
	for _, x := range forms() {
		for _, s := range x.samples() {
			lo, hi, e := round.Around(s.a, x.f)
			exact, _ := round.Exact(s.a, x.f)
			if e != api.OK || same(lo, hi) != exact {
				t.Fatalf("%v: %v and %v, exact %v", s.v.RatString(), lo, hi, exact)
			}
			if exact || lo.Class == api.ClInf || hi.Class == api.ClInf {
				continue
			}
			below, above := x.value(lo), x.value(hi)
			if below.Cmp(s.v) >= 0 || above.Cmp(s.v) <= 0 {
				t.Fatalf("%v is not between %v and %v", s.v.RatString(), lo, hi)
			}
			inner := below
			if s.v.Sign() < 0 {
				inner = above
			}
			if _, gap := x.gaps(new(big.Rat).Abs(inner)); above.Sub(above, below).Cmp(gap) != 0 {
				t.Fatalf("%v: there is something between %v and %v", s.v.RatString(), lo, hi)
			}
		}
	}
}

func TestAroundOfLarge(t *testing.T) { // P7.11: an infinite one counts as below or above all
	for _, x := range forms() {
		for _, v := range []*big.Rat{new(big.Rat).Add(x.greatest(), toThe(2, -9)), toThe(x.b, x.p+x.qmax), toThe(2, 32000)} {
			top := x.overflow(false, api.RdZero).D
			lo, hi, e := round.Around(rational(v), x.f)
			if e != api.OK || !same(lo, top) || !same(hi, x.overflow(false, api.RdUp).D) {
				t.Error(x.f, lo, hi, e)
			}
			top.Neg = true
			lo, hi, e = round.Around(rational(v.Neg(v)), x.f)
			if e != api.OK || !same(lo, x.overflow(true, api.RdDown).D) || !same(hi, top) {
				t.Error(x.f, lo, hi, e)
			}
		}
	}
}
