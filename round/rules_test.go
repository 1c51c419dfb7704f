package round_test

import (
	"math"
	"math/big"
	"slices"
	"testing"

	"soroban/api"
	"soroban/round"
)

// given is what functions take.
type given struct {
	r      api.Rat
	d      api.Dyad
	sticky int
	format int
	dir    int
	digits int
}

// call is what a call gives.
type call struct {
	data  [2]api.Datum
	flags int
	d     api.Dyad
	coef  api.Int
	exp   int
	yes   bool
	e     api.Errno
}

func sameInts(a, b api.Int) bool { return a.Neg == b.Neg && slices.Equal(a.Abs, b.Abs) }

func (c call) same(b call) bool {
	return same(c.data[0], b.data[0]) && same(c.data[1], b.data[1]) && c.flags == b.flags && sameInts(c.d.Man, b.d.Man) && c.d.Exp == b.d.Exp && sameInts(c.coef, b.coef) && c.exp == b.exp && c.yes == b.yes && c.e == b.e
}

// isEmpty reports whether a call gives nothing but an error.
func (c call) isEmpty() bool { return c.same(call{e: c.e}) }

// function is a function, and which parts of what is given it takes.
type function struct {
	takes string
	call  func(g given) call
}

func functions() map[string]function {
	result := func(r api.Result, e api.Errno) call { return call{data: [2]api.Datum{r.D}, flags: r.Flags, e: e} }
	return map[string]function{
		"Rat":      {"rfo", func(g given) call { return result(round.Rat(g.r, true, g.format, g.dir, 3)) }},
		"Dyad":     {"dsFo", func(g given) call { return result(round.Dyad(g.d, g.sticky, true, g.format, g.dir)) }},
		"Overflow": {"fo", func(g given) call { return result(round.Overflow(true, g.format, g.dir)) }},
		"Bits": {"ron", func(g given) (c call) {
			c.d, c.e = round.Bits(g.r, g.digits, g.dir)
			return c
		}},
		"Digits": {"ron", func(g given) (c call) {
			c.coef, c.exp, c.e = round.Digits(g.r, g.digits, g.dir)
			return c
		}},
		"Exact": {"rf", func(g given) (c call) {
			c.yes, c.e = round.Exact(g.r, g.format)
			return c
		}},
		"Around": {"rf", func(g given) (c call) {
			c.data[0], c.data[1], c.e = round.Around(g.r, g.format)
			return c
		}},
	}
}

// good returns arguments of which none is wrong.
func good() []given {
	return []given{
		{rational(parsed("1/3")), dyadOf(integer(5), -1), 0, api.FmHalf, api.RdEven, 17},
		{rational(parsed("-7")), dyadOf(integer(-9), 70), 1, api.FmDouble, api.RdUp, 1},
		{rational(parsed("0")), api.Dyad{}, 0, api.FmQuad, api.RdDown, 4096},
		{rational(parsed("1e300")), dyadOf(power(3, 300), -api.MaxExpo), -1, api.FmSingle, api.RdAway, 100},
		{rational(toThe(7, -2000)), dyadOf(integer(1), api.MaxExpo), -1, api.FmExtended, api.RdZero, 64},
	}
}

// wrong returns, by what functions take, what can be wrong with it.
func wrong() map[rune][]func(g *given) {
	kinds := map[rune][]func(g *given){}
	for _, r := range wrongRats() {
		kinds['r'] = append(kinds['r'], func(g *given) { g.r = r })
	}
	for _, d := range wrongDyads() {
		kinds['d'] = append(kinds['d'], func(g *given) { g.d = d })
	}
	for _, n := range []int{2, -2, math.MaxInt, math.MinInt, 1 << 32} {
		kinds['s'] = append(kinds['s'], func(g *given) { g.sticky = n })
	}
	for _, n := range []int{1, -1} {
		kinds['s'] = append(kinds['s'], func(g *given) { g.d, g.sticky = api.Dyad{}, n })
	}
	for _, n := range []int{0, 9, -1, math.MaxInt, math.MinInt, 1<<32 + 1} {
		kinds['f'] = append(kinds['f'], func(g *given) { g.format = n })
		kinds['F'] = append(kinds['F'], func(g *given) { g.format = n })
	}
	for _, n := range []int{api.FmDec32, api.FmDec64, api.FmDec128} {
		kinds['F'] = append(kinds['F'], func(g *given) { g.format = n })
	}
	for _, n := range []int{0, 6, -1, math.MaxInt, math.MinInt, 1<<32 + 1} {
		kinds['o'] = append(kinds['o'], func(g *given) { g.dir = n })
	}
	for _, n := range []int{0, 4097, -1, math.MaxInt, math.MinInt, 1<<32 + 1} {
		kinds['n'] = append(kinds['n'], func(g *given) { g.digits = n })
	}
	return kinds
}

// wrongRats returns what is no valid Rat.
func wrongRats() []api.Rat {
	one := api.Nat{1}
	long := slices.Repeat(api.Nat{math.MaxUint32}, api.MaxLimbs+1)
	return []api.Rat{
		{}, {Num: api.Int{Abs: one}}, {Num: api.Int{Abs: one}, Den: api.Nat{0}}, {Num: api.Int{Abs: api.Nat{1, 0}}, Den: one}, {Num: api.Int{Abs: one}, Den: api.Nat{1, 0}},
		{Num: api.Int{Neg: true}, Den: one}, {Den: api.Nat{2}}, {Num: api.Int{Abs: api.Nat{6}}, Den: api.Nat{4}}, {Num: api.Int{Abs: long}, Den: one}, {Num: api.Int{Abs: one}, Den: long},
	}
}

// wrongDyads returns what is no valid Dyad.
func wrongDyads() []api.Dyad {
	one := api.Int{Abs: api.Nat{1}}
	return []api.Dyad{
		{Exp: 1}, {Man: api.Int{Neg: true}}, {Man: api.Int{Abs: api.Nat{2}}}, {Man: api.Int{Abs: api.Nat{1, 0}}}, {Man: one, Exp: api.MaxExpo + 1}, {Man: one, Exp: -api.MaxExpo - 1},
		{Man: one, Exp: math.MinInt}, {Man: one, Exp: math.MaxInt}, {Man: api.Int{Abs: slices.Repeat(api.Nat{1}, api.MaxLimbs+1)}},
	}
}

func TestInvalidArguments(t *testing.T) { // the section Errors, P7.2, P7.3, R4
	for name, f := range functions() {
		for _, g := range good() {
			if got := f.call(g); got.e != api.OK || got.isEmpty() && name != "Exact" && len(g.r.Num.Abs) > 0 {
				t.Errorf("%s: %v", name, got)
			}
			for _, kind := range f.takes {
				for i, spoil := range wrong()[kind] {
					bad := g
					spoil(&bad)
					if got := f.call(bad); got.e != api.ErrArg || !got.isEmpty() {
						t.Errorf("%s, wrong %c %d: %v", name, kind, i, got)
					}
				}
			}
		}
	}
}

func TestBounds(t *testing.T) { // P7.1, P7.2, P7.3: what is just not wrong
	third := rational(parsed("1/3"))
	for _, n := range []int{1, api.MaxBits} {
		if d, e := round.Bits(third, n, api.RdZero); e != api.OK || bigInt(d.Man.Abs).BitLen() > n {
			t.Error(n, e)
		}
		if c, exp, e := round.Digits(third, n, api.RdZero); e != api.OK || len(bigInt(c.Abs).String()) != n || exp != -n {
			t.Error(n, exp, e)
		}
	}
	long := new(big.Int).Sub(power(2, 32768), integer(1))
	longest := api.Rat{Num: whole(long), Den: natural(new(big.Int).Sub(long, integer(1)))}
	for _, x := range forms() {
		for _, prefer := range []int{math.MinInt, math.MaxInt} {
			if r, e := round.Rat(longest, false, x.f, api.RdZero, prefer); e != api.OK || r.Flags != api.FlInexact {
				t.Error(x.f, r, e)
			}
		}
	}
}

// lists returns where what is given keeps its elements.
func (g *given) lists() []*api.Nat { return []*api.Nat{&g.r.Num.Abs, &g.r.Den, &g.d.Man.Abs} }

// lists returns the elements of a result.
func (c call) lists() []api.Nat {
	return []api.Nat{c.data[0].Coef, c.data[1].Coef, c.d.Man.Abs, c.coef.Abs}
}

func TestMemory(t *testing.T) { // R6
	behind := []uint32{77, 78, 79}
	short := given{rational(parsed("1024")), dyadOf(integer(1025), 0), 0, api.FmHalf, api.RdZero, 11}
	decimal := given{rational(parsed("1234567")), dyadOf(integer(1025), 0), 0, api.FmDec32, api.RdZero, 7}
	for name, f := range functions() {
		for _, g := range append(good(), short, decimal) {
			var all, copies []api.Nat
			for _, list := range g.lists() {
				long := append(slices.Clone(*list), behind...)
				all, copies = append(all, long), append(copies, slices.Clone(long))
				*list = long[:len(*list)]
			}
			first := f.call(g)
			again := f.call(g)
			for i, list := range first.lists() {
				list = list[:cap(list)]
				for k := range list {
					list[k] = 0xbad
				}
				for k, other := range first.lists() {
					if k > i && !slices.Equal(other, again.lists()[k]) {
						t.Fatalf("%s: results share memory", name)
					}
				}
			}
			for i, long := range all {
				if !slices.Equal(long, copies[i]) {
					t.Fatalf("%s changes an argument, or shares its memory", name)
				}
			}
			if !again.same(f.call(g)) {
				t.Fatalf("%s: what was done to a result is seen in another one", name)
			}
		}
	}
}

func TestSameAgain(t *testing.T) { // R7, and an empty slice is the same as nil
	for name, f := range functions() {
		for _, g := range good() {
			other := g
			for _, list := range other.lists() {
				*list = append(api.Nat{}, *list...)
			}
			if first, again := f.call(g), f.call(other); !first.same(again) {
				t.Errorf("%s: %v and %v", name, first, again)
			}
		}
	}
}
