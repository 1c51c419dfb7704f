package dyad_test

import (
	"encoding/binary"
	"math/big"
	"math/rand"
	"slices"
	"testing"

	"soroban/api"
	"soroban/dyad"
)

const (
	most    = 1<<32 - 1 // the greatest element
	maxBits = 32 * api.MaxLimbs
)

var (
	zero = new(big.Int)
	one  = big.NewInt(1)
)

// bigNat returns a natural number as package big has it.
func bigNat(a api.Nat) *big.Int {
	var bytes []byte
	for _, w := range slices.Backward(a) {
		bytes = binary.BigEndian.AppendUint32(bytes, w)
	}
	return new(big.Int).SetBytes(bytes)
}

// bigInt returns an integer as package big has it.
func bigInt(a api.Int) *big.Int {
	x := bigNat(a.Abs)
	if a.Neg {
		x.Neg(x)
	}
	return x
}

// integer returns an integer of package big, of any length.
func integer(x *big.Int) api.Int {
	a := api.Int{Neg: x.Sign() < 0}
	bytes := make([]byte, (x.BitLen()+31)/32*4)
	x.FillBytes(bytes)
	for i := len(bytes); i > 0; i -= 4 {
		a.Abs = append(a.Abs, binary.BigEndian.Uint32(bytes[i-4:]))
	}
	return a
}

// n returns an integer.
func n(i int) api.Int { return integer(big.NewInt(int64(i))) }

// power returns a power of 2, and something more or less.
func power(bits, more int) *big.Int {
	x := new(big.Int).Lsh(one, uint(bits))
	return x.Add(x, big.NewInt(int64(more)))
}

// largest returns the greatest natural number.
func largest() *big.Int { return power(maxBits, -1) }

// binaryFraction is a binary fraction as package big has it: man times 2^exp.
type binaryFraction struct {
	man *big.Int
	exp int
}

// oracle returns a dyad as package big has it.
func oracle(d api.Dyad) binaryFraction { return binaryFraction{bigInt(d.Man), d.Exp} }

// aligned returns the mans of two binary fractions with one exponent.
func (x binaryFraction) aligned(y binaryFraction) (a, b *big.Int, exp int) {
	exp = min(x.exp, y.exp)
	return new(big.Int).Lsh(x.man, uint(x.exp-exp)), new(big.Int).Lsh(y.man, uint(y.exp-exp)), exp
}

func (x binaryFraction) plus(y binaryFraction) binaryFraction {
	a, b, exp := x.aligned(y)
	return binaryFraction{a.Add(a, b), exp}
}

func (x binaryFraction) minus(y binaryFraction) binaryFraction { return x.plus(y.opposite()) }

func (x binaryFraction) times(y binaryFraction) binaryFraction {
	return binaryFraction{new(big.Int).Mul(x.man, y.man), x.exp + y.exp}
}

func (x binaryFraction) opposite() binaryFraction {
	return binaryFraction{new(big.Int).Neg(x.man), x.exp}
}

func (x binaryFraction) shifted(n int) binaryFraction { return binaryFraction{x.man, x.exp + n} }

func (x binaryFraction) cmp(y binaryFraction) int {
	a, b, _ := x.aligned(y)
	return a.Cmp(b)
}

// odd returns the same number with an odd man, or 0 and 0.
func (x binaryFraction) odd() binaryFraction {
	if x.man.Sign() == 0 {
		return binaryFraction{zero, 0}
	}
	zeros := x.man.TrailingZeroBits()
	return binaryFraction{new(big.Int).Rsh(x.man, zeros), x.exp + int(zeros)}
}

// fits reports whether a number is a dyad.
func (x binaryFraction) fits() bool {
	x = x.odd()
	return x.man.BitLen() <= maxBits && x.exp >= -api.MaxExpo && x.exp <= api.MaxExpo
}

// own returns a number, which fits, as a dyad.
func (x binaryFraction) own() api.Dyad {
	x = x.odd()
	return api.Dyad{Man: integer(x.man), Exp: x.exp}
}

// of returns the dyad man times 2^exp.
func of(man, exp int) api.Dyad { return binaryFraction{big.NewInt(int64(man)), exp}.own() }

// long returns the dyad of an integer of package big, times 2^exp.
func long(man *big.Int, exp int) api.Dyad { return binaryFraction{man, exp}.own() }

func minus(d api.Dyad) api.Dyad { return oracle(d).opposite().own() }

// quotient returns a rational number.
func quotient(num, den *big.Int) api.Rat {
	x := new(big.Rat).SetFrac(num, den)
	return api.Rat{Num: integer(x.Num()), Den: integer(x.Denom()).Abs}
}

// q returns a rational number.
func q(num, den int) api.Rat { return quotient(big.NewInt(int64(num)), big.NewInt(int64(den))) }

// rational returns a binary fraction as a rational number.
func (x binaryFraction) rational() *big.Rat {
	if x.exp >= 0 {
		return new(big.Rat).SetInt(new(big.Int).Lsh(x.man, uint(x.exp)))
	}
	return new(big.Rat).SetFrac(x.man, power(-x.exp, 0))
}

// rounded rounds the quotient num / den, times 2^exp, as the chapter's section Terms says it; den is above 0.
func rounded(num, den *big.Int, exp, bits, dir int) binaryFraction {
	if num.Sign() == 0 {
		return binaryFraction{zero, 0}
	}
	e := num.BitLen() - den.BitLen() - bits - 2
	var unit, below, rest *big.Int
	for { // the least e for which the magnitude is below 2^bits times 2^e
		dividend := new(big.Int).Lsh(num, uint(max(-e, 0)))
		unit = new(big.Int).Lsh(den, uint(max(e, 0)))
		if dividend.CmpAbs(new(big.Int).Lsh(unit, uint(bits))) < 0 {
			below, rest = new(big.Int).DivMod(dividend, unit, new(big.Int))
			break
		}
		e++
	}
	above := new(big.Int).Add(below, one)
	result := below
	if rest.Sign() != 0 && takesAbove(below, new(big.Int).Lsh(rest, 1).Cmp(unit), num.Sign() < 0, dir) {
		result = above
	}
	return binaryFraction{result, exp + e}
}

// takesAbove reports whether a number that lies between two multiples is rounded to the one above it, by how its rest is compared to half of a unit.
func takesAbove(below *big.Int, half int, negative bool, dir int) bool {
	switch dir {
	case api.RdUp:
		return true
	case api.RdDown:
		return false
	case api.RdZero:
		return negative
	}
	switch {
	case half != 0:
		return half > 0
	case dir == api.RdEven:
		return below.Bit(0) == 1
	}
	return !negative
}

// rounded is rounded for a binary fraction.
func (x binaryFraction) rounded(bits, dir int) binaryFraction {
	return rounded(x.man, one, x.exp, bits, dir)
}

// over returns a quotient, rounded.
func (x binaryFraction) over(y binaryFraction, bits, dir int) binaryFraction {
	num := x.man
	if y.man.Sign() < 0 {
		num = new(big.Int).Neg(num)
	}
	return rounded(num, new(big.Int).Abs(y.man), x.exp-y.exp, bits, dir)
}

// root returns a square root, rounded down or up.
func (x binaryFraction) root(bits, dir int) binaryFraction {
	if x.man.Sign() == 0 {
		return binaryFraction{zero, 0}
	}
	e := (x.man.BitLen()+x.exp)/2 - bits - 2
	for {
		square := new(big.Int).Lsh(x.man, uint(max(x.exp-2*e, 0)))
		square.Rsh(square, uint(max(2*e-x.exp, 0)))
		r := new(big.Int).Sqrt(square)
		if r.BitLen() > bits {
			e++
			continue
		}
		below := binaryFraction{r, e}
		if dir == api.RdUp && below.times(below).cmp(x) != 0 {
			return binaryFraction{r.Add(r, one), e}
		}
		return below
	}
}

// dyads returns the dyads at which something changes, and some others.
func dyads() []api.Dyad {
	list := []api.Dyad{{}}
	for _, bits := range []int{0, 1, 2, 31, 32, 33, 63, 64, 65, 128} {
		for _, more := range []int{-1, 0, 1} {
			for _, exp := range []int{-130, -64, -1, 0, 7} {
				x := long(power(bits, more), exp)
				list = append(list, x, minus(x))
			}
		}
	}
	r := rand.New(rand.NewSource(4))
	for _, size := range []int{1, 2, 3, 5, 9} {
		list = append(list, some(r, size, 100), some(r, size, 300))
	}
	return list
}

// few returns some of the dyads, for loops over three of them.
func few() []api.Dyad {
	list := []api.Dyad{{}}
	for i, d := range dyads() {
		if i%14 == 1 {
			list = append(list, d)
		}
	}
	return list
}

// largeDyads returns dyads near the limits.
func largeDyads() []api.Dyad {
	list := []api.Dyad{{}, of(1, 0), of(-3, 0)}
	for _, exp := range []int{-api.MaxExpo, -api.MaxExpo + 1, -maxBits, 1 - maxBits, -1, 0, maxBits - 1, maxBits, api.MaxExpo - 1, api.MaxExpo} {
		for _, man := range []*big.Int{one, power(1, 1), power(64, -1), power(4096, 1), power(maxBits-1, 1), power(maxBits, -3), largest()} {
			x := long(man, exp)
			list = append(list, x, minus(x))
		}
	}
	return list
}

// natural returns some natural number of n elements. Most have many elements at the bounds.
func natural(r *rand.Rand, n int) *big.Int {
	edges := []uint32{0, 0, 1, 2, 1<<31 - 1, 1 << 31, 1<<31 + 1, most - 1, most, most}
	kind := r.Intn(3)
	a := make(api.Nat, n)
	for i := range a {
		if kind == 0 {
			a[i] = edges[r.Intn(len(edges))]
		} else {
			a[i] = r.Uint32()
		}
	}
	return bigNat(a)
}

// some returns some dyad of at most n elements, with an Exp up to a bound.
func some(r *rand.Rand, n, exp int) api.Dyad {
	man := natural(r, 1+r.Intn(n))
	if r.Intn(4) == 0 {
		man = big.NewInt(int64(r.Intn(40)))
	}
	if r.Intn(2) == 0 {
		man.Neg(man)
	}
	return long(man, r.Intn(2*exp)-exp)
}

// between returns a span of two dyads in any order.
func between(a, b api.Dyad) api.Span {
	if oracle(a).cmp(oracle(b)) > 0 {
		a, b = b, a
	}
	return api.Span{Lo: a, Hi: b}
}

// someSpan returns some span: wide ones, narrow ones, and points.
func someSpan(r *rand.Rand, n, exp int) api.Span {
	a := some(r, n, exp)
	switch r.Intn(4) {
	case 0:
		return between(a, some(r, n, exp))
	case 1:
		return between(a, a)
	}
	unit := binaryFraction{big.NewInt(int64(r.Intn(50))), a.Exp - r.Intn(20)}
	return between(a, oracle(a).plus(unit).own())
}

// spans returns the spans of all pairs of some dyads.
func spans(list []api.Dyad) []api.Span {
	var all []api.Span
	for i, a := range list {
		for _, b := range list[i:] {
			all = append(all, between(a, b))
		}
	}
	return all
}

// smallSpans returns spans whose ends have few bits.
func smallSpans() []api.Span {
	list := []api.Dyad{of(-7, 0), of(-3, -1), of(-1, 0), of(-1, -3), {}, of(1, -3), of(1, 0), of(11, -3), of(5, 0), of(9, 2)}
	return spans(list)
}

// invalid returns what is no dyad.
func invalid() []api.Dyad {
	return []api.Dyad{
		{Exp: 1},
		{Exp: -1},
		{Man: n(2)},
		{Man: n(-4), Exp: 3},
		{Man: n(1), Exp: api.MaxExpo + 1},
		{Man: n(1), Exp: -api.MaxExpo - 1},
		{Man: n(-1), Exp: 1 << 62},
		{Man: n(1), Exp: -1 << 63},
		{Man: api.Int{Neg: true}},
		{Man: api.Int{Abs: api.Nat{0}}},
		{Man: api.Int{Abs: api.Nat{1, 0}}},
		{Man: integer(power(maxBits, 1))},
	}
}

// improper returns what is no span.
func improper() []api.Span {
	list := []api.Span{
		{Lo: of(1, 0)},
		{Lo: of(1, 0), Hi: of(-1, 0)},
		{Lo: of(-1, -9), Hi: of(-1, -8)},
		{Lo: of(3, 0), Hi: of(11, -2)},
		{Lo: of(1, api.MaxExpo), Hi: long(largest(), api.MaxExpo-maxBits)},
	}
	for _, d := range invalid() {
		list = append(list, api.Span{Lo: d, Hi: of(1, 0)}, api.Span{Lo: of(-1, 0), Hi: d}, api.Span{Lo: d, Hi: d})
	}
	return list
}

// invalidRats returns what is no rational number.
func invalidRats() []api.Rat {
	den := api.Nat{1}
	return []api.Rat{
		{},
		{Num: n(5)},
		{Num: n(5), Den: api.Nat{1, 0}},
		{Num: api.Int{Neg: true}, Den: den},
		{Num: n(0), Den: api.Nat{2}},
		{Num: n(2), Den: api.Nat{4}},
		{Num: integer(power(maxBits, 0)), Den: den},
	}
}

// wrongBits returns what is no number of bits.
func wrongBits() []int { return []int{-1 << 63, -1, 0, api.MaxBits + 1, 1<<63 - 1} }

// wrongDirections returns what is no direction.
func wrongDirections() []int { return []int{-1 << 63, -1, 0, 6, 1<<63 - 1} }

// directions returns all directions.
func directions() []int {
	return []int{api.RdEven, api.RdAway, api.RdZero, api.RdUp, api.RdDown}
}

// same checks the result of a call that should be the number want, or ErrLimit if no dyad is this number.
func same(t *testing.T, what string, got api.Dyad, e api.Errno, want binaryFraction) {
	t.Helper()
	if !want.fits() {
		failed(t, what, got, e, api.ErrLimit)
		return
	}
	if e != api.OK || !equal(got, want.own()) {
		t.Fatalf("%s: %v times 2^%d and error %d, not %v times 2^%d", what, bigInt(got.Man), got.Exp, e, want.odd().man, want.odd().exp)
	}
}

// failed checks the result of a call that should be an error.
func failed(t *testing.T, what string, got api.Dyad, e, want api.Errno) {
	t.Helper()
	if e != want || !equal(got, api.Dyad{}) {
		t.Fatalf("%s: %d elements and error %d, not error %d", what, len(got.Man.Abs), e, want)
	}
}

// sameSpan is same for spans.
func sameSpan(t *testing.T, what string, got api.Span, e api.Errno, lo, hi binaryFraction) {
	t.Helper()
	if !lo.fits() || !hi.fits() {
		failedSpan(t, what, got, e, api.ErrLimit)
		return
	}
	same(t, what+", Lo", got.Lo, e, lo)
	same(t, what+", Hi", got.Hi, e, hi)
}

// failedSpan is failed for spans.
func failedSpan(t *testing.T, what string, got api.Span, e, want api.Errno) {
	t.Helper()
	failed(t, what, got.Lo, e, want)
	failed(t, what, got.Hi, e, want)
}

// sure returns the result of a call that should have no error.
func sure(t *testing.T) func(d api.Dyad, e api.Errno) api.Dyad {
	return func(d api.Dyad, e api.Errno) api.Dyad {
		t.Helper()
		if e != api.OK || !dyad.Valid(d) {
			t.Fatalf("%v, error %d", d, e)
		}
		return d
	}
}

// sureSpan returns the result of a call that should have no error.
func sureSpan(t *testing.T) func(s api.Span, e api.Errno) api.Span {
	return func(s api.Span, e api.Errno) api.Span {
		t.Helper()
		if e != api.OK || !dyad.Proper(s) {
			t.Fatalf("%v, error %d", s, e)
		}
		return s
	}
}

// identical checks that two dyads are the same.
func identical(t *testing.T, what string, a, b api.Dyad) {
	t.Helper()
	if !equal(a, b) {
		t.Fatalf("%s: %v and %v", what, a, b)
	}
}

func equal(a, b api.Dyad) bool {
	return a.Exp == b.Exp && equalInts(a.Man, b.Man)
}

func equalInts(a, b api.Int) bool {
	return a.Neg == b.Neg && slices.Equal(a.Abs, b.Abs)
}

func equalSpans(a, b api.Span) bool {
	return equal(a.Lo, b.Lo) && equal(a.Hi, b.Hi)
}

// order returns Cmp of two dyads.
func order(t *testing.T, a, b api.Dyad) int {
	t.Helper()
	c, e := dyad.Cmp(a, b)
	if e != api.OK || c < -1 || c > 1 {
		t.Fatalf("Cmp: %d, error %d", c, e)
	}
	return c
}

// within reports whether a span lies in another one.
func within(t *testing.T, inner, outer api.Span) bool {
	t.Helper()
	return order(t, outer.Lo, inner.Lo) <= 0 && order(t, inner.Hi, outer.Hi) <= 0
}
