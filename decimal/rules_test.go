package decimal_test

import (
	"slices"
	"testing"

	"soroban/api"
	"soroban/decimal"
)

// given is what functions take: a datum, or a format and bits, and encodings and an exponent.
type given struct {
	d       api.Datum
	f       int
	enc, to int
	exp     int
	raw     api.Raw
}

// call is what a call gives.
type call struct {
	d    api.Datum
	v    api.Rat
	raw  api.Raw
	n, m int
	k    int
	yes  bool
	e    api.Errno
}

func (c call) same(b call) bool {
	return decimal.Same(c.d, b.d) && c.v.Num.Neg == b.v.Num.Neg && slices.Equal(c.v.Num.Abs, b.v.Num.Abs) && slices.Equal(c.v.Den, b.v.Den) && c.raw == b.raw && c.n == b.n && c.m == b.m && c.k == b.k && c.yes == b.yes && c.e == b.e
}

// isEmpty reports whether a call gives nothing but an error.
func (c call) isEmpty() bool { return c.same(call{e: c.e}) }

// spoil overwrites all the memory of a result.
func (c call) spoil() {
	for _, list := range []api.Nat{c.d.Coef, c.v.Num.Abs, c.v.Den} {
		list = list[:cap(list)]
		for i := range list {
			list[i] = 0xbad
		}
	}
}

// ofData returns the functions that take a datum.
func ofData() map[string]func(g given) call {
	return map[string]func(g given) call{
		"Check": func(g given) call { return call{e: decimal.Check(g.d)} },
		"Encode": func(g given) (c call) {
			c.raw, c.e = decimal.Encode(g.d, g.enc)
			return c
		},
		"Cohort": func(g given) (c call) {
			c.n, c.m, c.e = decimal.Cohort(g.d)
			return c
		},
		"Member": func(g given) (c call) {
			c.d, c.e = decimal.Member(g.d, g.exp)
			return c
		},
		"Normal": func(g given) (c call) {
			c.d, c.e = decimal.Normal(g.d)
			return c
		},
		"Quantum": func(g given) (c call) {
			c.v, c.e = decimal.Quantum(g.d)
			return c
		},
		"Value": func(g given) (c call) {
			c.v, c.e = decimal.Value(g.d)
			return c
		},
	}
}

// ofFormats returns the functions that take a format.
func ofFormats() map[string]func(g given) call {
	return map[string]func(g given) call{
		"Params": func(g given) (c call) {
			c.n, c.m, c.k, c.e = decimal.Params(g.f)
			return c
		},
		"Decode": func(g given) (c call) {
			c.d, c.yes, c.e = decimal.Decode(g.f, g.enc, g.raw)
			return c
		},
		"Recode": func(g given) (c call) {
			c.raw, c.e = decimal.Recode(g.f, g.enc, g.to, g.raw)
			return c
		},
	}
}

func TestInvalidArguments(t *testing.T) { // the section Errors, R3, R4: ErrArg comes first
	check := func(name string, got call) {
		t.Helper()
		if got.e != api.ErrArg || !got.isEmpty() {
			t.Fatalf("%s: %v", name, got)
		}
	}
	for name, f := range ofData() {
		for _, x := range forms() {
			for _, d := range x.invalid() {
				for _, exp := range []int{0, d.Exp, x.qmax + 1} {
					check(name, f(given{d: d, enc: api.EnBinary, exp: exp}))
				}
			}
		}
	}
	for name, f := range ofFormats() {
		for _, x := range []int{-1 << 63, -1, 0, 1, api.FmQuad, 9, 1<<32 + 7} {
			check(name, f(given{f: x, enc: api.EnPacked, to: api.EnBinary}))
		}
	}
	for _, x := range forms() {
		for _, enc := range []int{-1 << 63, -1, 0, 3, 1<<32 + 1} {
			check("Encode", ofData()["Encode"](given{d: x.data()[0], enc: enc}))
			check("Encode", ofData()["Encode"](given{d: x.others()[0], enc: enc}))
			check("Decode", ofFormats()["Decode"](given{f: x.f, enc: enc}))
			for _, other := range encodings() {
				check("Recode", ofFormats()["Recode"](given{f: x.f, enc: enc, to: other}))
				check("Recode", ofFormats()["Recode"](given{f: x.f, enc: other, to: enc}))
			}
		}
	}
}

func TestErrorsGiveNothing(t *testing.T) { // R1, R4
	seen := map[api.Errno]bool{}
	for name, f := range ofData() {
		for _, x := range forms() {
			for _, d := range append(x.data(), x.invalid()...) {
				got := f(given{d: d, enc: api.EnPacked, exp: 3})
				seen[got.e] = true
				if got.e != api.OK && !got.isEmpty() {
					t.Fatalf("%s of %v: %v", name, d, got)
				}
			}
		}
	}
	if len(seen) != 4 || !seen[api.OK] || !seen[api.ErrArg] || !seen[api.ErrType] || !seen[api.ErrNone] {
		t.Error(seen)
	}
}

func TestMemory(t *testing.T) { // R6
	behind := []uint32{77, 78, 79}
	for _, x := range forms() {
		for _, d := range append(x.data(), x.invalid()...) {
			for name, f := range ofData() {
				g := given{d: d, enc: api.EnPacked, exp: d.Exp}
				padded := append(slices.Clone(d.Coef), behind...)
				g.d.Coef = padded[:len(d.Coef)]
				first := f(g)
				first.spoil()
				if !slices.Equal(padded, append(slices.Clone(d.Coef), behind...)) {
					t.Fatalf("%s changes its argument, or shares its memory", name)
				}
				if again := f(g); again.e == api.OK && slices.Contains(slices.Concat(again.d.Coef, again.v.Num.Abs, again.v.Den), 0xbad) {
					t.Fatalf("%s: what was done to a result is seen in another one", name)
				}
			}
		}
		for _, enc := range encodings() {
			g := given{f: x.f, enc: enc, raw: x.encoded(x.numbers()[20], enc)}
			first := ofFormats()["Decode"](g)
			first.spoil()
			if again := ofFormats()["Decode"](g); slices.Contains(again.d.Coef, 0xbad) {
				t.Fatal("what was done to a result is seen in another one")
			}
		}
	}
}

func TestSameAgain(t *testing.T) { // R7, and an empty slice is the same as nil
	for _, x := range forms() {
		for _, d := range append(x.data(), x.invalid()...) {
			g := given{d: d, enc: api.EnBinary, exp: d.Exp}
			other := g
			other.d.Coef = append(api.Nat{}, d.Coef...)
			for name, f := range ofData() {
				if !f(g).same(f(other)) {
					t.Fatalf("%s of %v: not twice the same", name, d)
				}
			}
		}
		for _, r := range x.raws()[:500] {
			g := given{f: x.f, enc: api.EnPacked, to: api.EnBinary, raw: r}
			for name, f := range ofFormats() {
				if !f(g).same(f(g)) {
					t.Fatalf("%s of %v: not twice the same", name, r)
				}
			}
		}
	}
}
