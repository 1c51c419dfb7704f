package round_test

import (
	"math"
	"math/big"
	"math/rand"
	"slices"
	"sync"

	"soroban/api"
)

// form is a format as the chapter's table says it.
type form struct{ f, b, p, qmin, qmax int }

func forms() []form {
	return []form{
		{api.FmHalf, 2, 11, -24, 5},
		{api.FmSingle, 2, 24, -149, 104},
		{api.FmDouble, 2, 53, -1074, 971},
		{api.FmExtended, 2, 64, -16445, 16320},
		{api.FmQuad, 2, 113, -16494, 16271},
		{api.FmDec32, 10, 7, -101, 90},
		{api.FmDec64, 10, 16, -398, 369},
		{api.FmDec128, 10, 34, -6176, 6111},
	}
}

func binaryForms() []form { return forms()[:5] }
func half() form          { return forms()[0] }
func dec32() form         { return forms()[5] }

func directions() []int {
	return []int{api.RdEven, api.RdAway, api.RdZero, api.RdUp, api.RdDown}
}

// mirrored returns the direction that does to negative numbers what another one does to positive ones.
func mirrored(dir int) int {
	return map[int]int{api.RdEven: api.RdEven, api.RdAway: api.RdAway, api.RdZero: api.RdZero, api.RdUp: api.RdDown, api.RdDown: api.RdUp}[dir]
}

// prefers returns preferred exponents for a format: some within its bounds, some at and behind them.
func (x form) prefers() []int {
	if x.b == 2 {
		return []int{x.qmax}
	}
	return []int{math.MinInt, x.qmin - 1, x.qmin, -3, 0, x.qmax, x.qmax + 1, math.MaxInt}
}

// integer returns an integer of package big.
func integer(n int) *big.Int { return big.NewInt(int64(n)) }

// fraction returns n / d.
func fraction(n, d int) *big.Rat { return new(big.Rat).SetFrac(integer(n), integer(d)) }

// parsed returns the number that is written as n or n/d.
func parsed(s string) *big.Rat {
	v, ok := new(big.Rat).SetString(s)
	if !ok {
		panic(s)
	}
	return v
}

// power returns a power of a base whose exponent is not negative.
func power(b, n int) *big.Int { return new(big.Int).Exp(integer(b), integer(n), nil) }

// scaled returns a number times a power of a base.
func scaled(v *big.Rat, b, n int) *big.Rat {
	if n < 0 {
		return new(big.Rat).Quo(v, new(big.Rat).SetInt(power(b, -n)))
	}
	return new(big.Rat).Mul(v, new(big.Rat).SetInt(power(b, n)))
}

// toThe returns a power of a base.
func toThe(b, n int) *big.Rat { return scaled(fraction(1, 1), b, n) }

// bigInt returns a natural number as package big has it.
func bigInt(a api.Nat) *big.Int {
	v := new(big.Int)
	for i, w := range a {
		v.Or(v, new(big.Int).Lsh(big.NewInt(int64(w)), uint(32*i)))
	}
	return v
}

// natural returns the magnitude of a number of package big.
func natural(v *big.Int) api.Nat {
	var a api.Nat
	for _, w := range v.Bits() {
		a = append(a, uint32(w), uint32(w>>32))
	}
	for len(a) > 0 && a[len(a)-1] == 0 {
		a = a[:len(a)-1]
	}
	return a
}

// whole returns an integer of package big.
func whole(v *big.Int) api.Int { return api.Int{Neg: v.Sign() < 0, Abs: natural(v)} }

// rational returns a number of package big.
func rational(v *big.Rat) api.Rat { return api.Rat{Num: whole(v.Num()), Den: natural(v.Denom())} }

// signedInt returns an integer as package big has it.
func signedInt(a api.Int) *big.Int {
	v := bigInt(a.Abs)
	if a.Neg {
		v.Neg(v)
	}
	return v
}

// dyadOf returns m times 2^e.
func dyadOf(m *big.Int, e int) api.Dyad {
	if m.Sign() == 0 {
		return api.Dyad{}
	}
	zeros := int(m.TrailingZeroBits())
	return api.Dyad{Man: whole(new(big.Int).Rsh(m, uint(zeros))), Exp: e + zeros}
}

// ofDyad returns the number that a dyad is.
func ofDyad(d api.Dyad) *big.Rat {
	return scaled(new(big.Rat).SetInt(signedInt(d.Man)), 2, d.Exp)
}

// value returns the number that a finite datum is.
func (x form) value(d api.Datum) *big.Rat {
	return scaled(new(big.Rat).SetInt(signedInt(api.Int{Neg: d.Neg, Abs: d.Coef})), x.b, d.Exp)
}

// greatest returns the greatest finite number of a format.
func (x form) greatest() *big.Rat {
	return scaled(new(big.Rat).SetInt(x.coefficient(-1)), x.b, x.qmax)
}

// coefficient returns the least number that has too many digits for a format, and something more or less.
func (x form) coefficient(more int) *big.Int {
	return new(big.Int).Add(power(x.b, x.p), integer(more))
}

// isBelow reports whether m is less than b^n. It does not make powers that are far from m.
func isBelow(m *big.Rat, b, n int) bool {
	size := float64(m.Num().BitLen() - m.Denom().BitLen()) // of its logarithm to the base 2
	if far := float64(n) * math.Log2(float64(b)); math.Abs(far-size) > 3 {
		return size < far
	}
	if n < 0 {
		return new(big.Int).Mul(m.Num(), power(b, -n)).Cmp(m.Denom()) < 0
	}
	return m.Num().Cmp(new(big.Int).Mul(m.Denom(), power(b, n))) < 0
}

// lastExponent returns the least integer q, but at least qmin, for which a magnitude is less than b^(p + q).
func (x form) lastExponent(m *big.Rat) int {
	if m.Sign() == 0 {
		return x.qmin
	}
	size := float64(m.Num().BitLen()-m.Denom().BitLen()-2) / math.Log2(float64(x.b))
	q := max(int(math.Floor(size))-2-x.p, x.qmin)
	for !isBelow(m, x.b, x.p+q) {
		q++
	}
	return q
}

// part rounds the integer part of m / b^q, with a sign, and reports whether this is exact.
func part(m *big.Rat, b, q int, neg bool, dir int) (*big.Int, bool) {
	over, under := new(big.Int).Set(m.Num()), new(big.Int).Set(m.Denom())
	if q < 0 {
		over.Mul(over, power(b, -q))
	} else {
		under.Mul(under, power(b, q))
	}
	below, rest := new(big.Int).QuoRem(over, under, new(big.Int))
	if rest.Sign() == 0 {
		return below, true
	}
	above := new(big.Int).Add(below, integer(1))
	order := new(big.Int).Lsh(rest, 1).Cmp(under)
	switch dir {
	case api.RdZero:
		return below, false
	case api.RdUp, api.RdDown:
		if neg == (dir == api.RdDown) {
			return above, false
		}
		return below, false
	}
	switch {
	case order < 0:
		return below, false
	case order == 0 && dir == api.RdEven && below.Bit(0) == 0:
		return below, false
	}
	return above, false
}

// exponents returns the least and the greatest exponent of the decimal data with a value other than 0; there are none if the least one is greater.
func (x form) exponents(m *big.Rat) (least, greatest int) {
	coef, exp := new(big.Int).Set(m.Num()), 0
	if rest := m.Denom(); rest.BitLen() > 1 {
		twos := int(rest.TrailingZeroBits())
		odd := new(big.Int).Rsh(rest, uint(twos))
		fives := int(math.Ceil(float64(odd.BitLen()-1) / math.Log2(5))) // if it is a power of 5
		if odd.Cmp(power(5, fives)) != 0 {
			return 1, 0
		}
		exp = -max(twos, fives)
		coef.Mul(coef, power(10, -exp)).Quo(coef, rest)
	}
	digits := coef.String()
	for digits[len(digits)-1] == '0' {
		digits, exp = digits[:len(digits)-1], exp+1
	}
	return max(exp-(x.p-len(digits)), x.qmin), min(exp, x.qmax)
}

// overflow returns what the chapter says of numbers that are too large.
func (x form) overflow(neg bool, dir int) api.Result {
	r := api.Result{D: api.Datum{Fmt: x.f, Class: api.ClInf, Neg: neg}, Flags: api.FlOverflow | api.FlInexact}
	if dir == api.RdZero || dir == api.RdUp && neg || dir == api.RdDown && !neg {
		r.D = api.Datum{Fmt: x.f, Class: api.ClFinite, Neg: neg, Coef: natural(x.coefficient(-1)), Exp: x.qmax}
	}
	return r
}

// rounded returns what the chapter says of a number in a direction with a preferred exponent.
func (x form) rounded(v *big.Rat, neg bool, dir, prefer int) api.Result {
	d := api.Datum{Fmt: x.f, Class: api.ClFinite, Neg: neg, Exp: x.qmin}
	if v.Sign() == 0 {
		if x.b == 10 {
			d.Exp = min(max(prefer, x.qmin), x.qmax)
		}
		return api.Result{D: d}
	}
	d.Neg = v.Sign() < 0
	m := new(big.Rat).Abs(v)
	q := x.lastExponent(m)
	if x.b == 10 {
		if least, greatest := x.exponents(m); least <= greatest {
			d.Exp = min(max(prefer, least), greatest)
			d.Coef = natural(scaled(m, 10, -d.Exp).Num())
			return api.Result{D: d}
		}
	}
	c, exact := part(m, x.b, q, d.Neg, dir)
	if c.Cmp(x.coefficient(0)) == 0 {
		c, q = power(x.b, x.p-1), q+1
	}
	if q > x.qmax {
		return x.overflow(d.Neg, dir)
	}
	d.Coef, d.Exp = natural(c), q
	switch {
	case exact:
		return api.Result{D: d}
	case m.Cmp(toThe(x.b, x.p-1+x.qmin)) < 0:
		return api.Result{D: d, Flags: api.FlInexact | api.FlUnderflow}
	}
	return api.Result{D: d, Flags: api.FlInexact}
}

// same reports whether two data are equal in all fields.
func same(a, b api.Datum) bool {
	return a.Fmt == b.Fmt && a.Class == b.Class && a.Neg == b.Neg && slices.Equal(a.Coef, b.Coef) && a.Exp == b.Exp
}

// data returns the values of some finite data above 0, as coefficients and exponents: those at bounds, and some others.
func (x form) data() [][2]*big.Int {
	r := rand.New(rand.NewSource(int64(x.f)))
	coefs := []*big.Int{integer(1), integer(2), integer(x.b), x.coefficient(-1), x.coefficient(-2), power(x.b, x.p-1), new(big.Int).Add(power(x.b, x.p-1), integer(1))}
	for range 2 {
		coefs = append(coefs, new(big.Int).Add(new(big.Int).Rand(r, x.coefficient(-1)), integer(1)))
	}
	var list [][2]*big.Int
	for _, exp := range []int{x.qmin, x.qmin + 1, -x.p, 0, x.qmax - 1, x.qmax} {
		for _, coef := range coefs {
			list = append(list, [2]*big.Int{coef, integer(exp)})
		}
	}
	return list
}

// near returns numbers near data of a format: these themselves, and what lies at, above and below halves of their last digits, and of the one behind that.
func (x form) near() []*big.Rat {
	fractions := []*big.Rat{fraction(0, 1), fraction(1, 2), fraction(-1, 2), fraction(1, 3), fraction(2, 3), fraction(-1, 4), fraction(-1, 20)}
	tiny := toThe(x.b, -x.p-30)
	for _, at := range []*big.Rat{fraction(0, 1), fraction(1, 2), fraction(-1, 2), fraction(-1, 4)} {
		fractions = append(fractions, new(big.Rat).Add(at, tiny), new(big.Rat).Sub(at, tiny))
	}
	var list []*big.Rat
	for _, d := range x.data() {
		for _, f := range fractions {
			v := new(big.Rat).Add(new(big.Rat).SetInt(d[0]), f)
			list = append(list, scaled(v, x.b, int(d[1].Int64())))
		}
	}
	return list
}

// any returns numbers of all sizes, also those that are far from all formats.
func anyNumbers() []*big.Rat {
	r := rand.New(rand.NewSource(1))
	long := new(big.Int).Sub(power(2, 32768), integer(1))
	list := []*big.Rat{
		new(big.Rat).SetInt(long), new(big.Rat).SetFrac(integer(1), long), toThe(2, 32767), toThe(2, -32767),
		new(big.Rat).SetFrac(long, new(big.Int).Sub(long, integer(2))), toThe(10, 9864), toThe(10, -9864), toThe(3, 20000), toThe(3, -20000),
	}
	for range 300 {
		n := new(big.Int).Rand(r, power(2, 1+r.Intn(300)))
		d := new(big.Int).Rand(r, power(2, 1+r.Intn(300)))
		list = append(list, new(big.Rat).SetFrac(n, d.Add(d, integer(1))))
	}
	for _, n := range []int{1, 2, 3, 5, 7, 9, 10, 99, 100, 101, 999999, 1000000, 9999995, 65504, 65505, 65519, 65520, 65536} {
		for _, d := range []int{1, 3, 7, 10, 1000, 1024, 1 << 25} {
			list = append(list, fraction(n, d))
		}
	}
	return list
}

// withSigns returns the numbers, their negatives, and 0.
func withSigns(list []*big.Rat) []*big.Rat {
	all := []*big.Rat{new(big.Rat)}
	for _, v := range list {
		all = append(all, v, new(big.Rat).Neg(v))
	}
	return all
}

// sample is a number in both forms.
type sample struct {
	v *big.Rat
	a api.Rat
}

// samples returns numbers for all formats, by their place in the table: those near their data, and others.
var samples = sync.OnceValue(func() [][]sample {
	var all [][]sample
	for _, x := range forms() {
		var list []sample
		for _, v := range withSigns(append(x.near(), anyNumbers()...)) {
			list = append(list, sample{v, rational(v)})
		}
		all = append(all, list)
	}
	return all
})

func (x form) samples() []sample { return samples()[x.f-1] }

// few returns every n-th sample, for an odd n: every second one is negative.
func (x form) few(n int) []sample {
	var list []sample
	for i, s := range x.samples() {
		if i%n == 0 {
			list = append(list, s)
		}
	}
	return list
}
