package binary_test

import (
	"math"
	"math/big"
	"slices"
	"testing"

	"soroban/api"
	"soroban/binary"
)

// call is what a call gives: a datum, an integer, a dyad, a format, bits, a bool, and an error.
type call struct {
	d     api.Datum
	i     api.Int
	v     api.Dyad
	f     api.BinFormat
	raw   api.Raw
	yes   bool
	e     api.Errno
	lists []api.Nat
}

// ofDatum returns a call that gives a datum.
func ofDatum(d api.Datum, e api.Errno) call { return call{d: d, e: e, lists: []api.Nat{d.Coef}} }

// isEmpty reports whether a call gives nothing but an error.
func (c call) isEmpty() bool {
	return c.same(call{e: c.e})
}

// same reports whether two calls give the same.
func (c call) same(b call) bool {
	return binary.Same(c.d, b.d) && c.i.Neg == b.i.Neg && slices.Equal(c.i.Abs, b.i.Abs) && c.v.Man.Neg == b.v.Man.Neg && slices.Equal(c.v.Man.Abs, b.v.Man.Abs) && c.v.Exp == b.v.Exp && c.f == b.f && c.raw == b.raw && c.yes == b.yes && c.e == b.e
}

// ofData returns the functions that take a datum.
func ofData() map[string]func(d api.Datum) call {
	return map[string]func(d api.Datum) call{
		"Check": func(d api.Datum) call { return call{e: binary.Check(d)} },
		"Encode": func(d api.Datum) call {
			r, e := binary.Encode(d)
			return call{raw: r, e: e}
		},
		"Value": func(d api.Datum) call {
			v, e := binary.Value(d)
			return call{v: v, e: e, lists: []api.Nat{v.Man.Abs}}
		},
		"Index": func(d api.Datum) call {
			i, e := binary.Index(d)
			return call{i: i, e: e, lists: []api.Nat{i.Abs}}
		},
	}
}

// given is what functions of a format take.
type given struct {
	f       int
	neg     bool
	coef    api.Nat
	exp     int
	class   int
	payload api.Nat
	raw     api.Raw
	index   api.Int
}

// ofFormats returns the functions that take a format.
func ofFormats() map[string]func(g given) call {
	return map[string]func(g given) call{
		"Format": func(g given) call {
			f, e := binary.Format(g.f)
			return call{f: f, e: e}
		},
		"Make":        func(g given) call { return ofDatum(binary.Make(g.f, g.neg, g.coef, g.exp)) },
		"Special":     func(g given) call { return ofDatum(binary.Special(g.f, g.class, g.neg, g.payload)) },
		"Decode":      func(g given) call { return ofDatum(binary.Decode(g.f, g.raw)) },
		"Least":       func(g given) call { return ofDatum(binary.Least(g.f)) },
		"LeastNormal": func(g given) call { return ofDatum(binary.LeastNormal(g.f)) },
		"Greatest":    func(g given) call { return ofDatum(binary.Greatest(g.f)) },
		"Epsilon":     func(g given) call { return ofDatum(binary.Epsilon(g.f)) },
		"At":          func(g given) call { return ofDatum(binary.At(g.f, g.index)) },
		"Canonical": func(g given) call {
			yes, e := binary.Canonical(g.f, g.raw)
			return call{yes: yes, e: e}
		},
	}
}

// arguments returns what all functions of a format can be given: what is right for all formats, and what is an error of another kind than ErrArg.
func arguments() []given {
	return []given{
		{coef: api.Nat{3}, exp: -2, class: api.ClQuiet, payload: api.Nat{100}, raw: api.Raw{Lo: 0x7c31}, index: api.Int{Neg: true, Abs: api.Nat{31700}}},
		{neg: true, coef: nil, exp: math.MaxInt, class: api.ClInf, raw: api.Raw{Lo: 0xff}},
		{neg: true, coef: natural(power(90, 0)), exp: -80, class: api.ClSignal, payload: api.Nat{511}, raw: api.Raw{Lo: 0x8001}, index: api.Int{Abs: api.Nat{1}}},
		{coef: natural(power(1<<15, -1)), exp: math.MinInt, class: api.ClSignal, payload: api.Nat{1}, index: integer(power(1<<15, -1))},
	}
}

func TestInvalidArguments(t *testing.T) { // the section Errors, R3, R4: ErrArg comes ahead of all other errors
	for name, f := range ofData() {
		for _, x := range forms() {
			for _, d := range x.invalid() {
				if got := f(d); got.e != api.ErrArg || !got.isEmpty() {
					t.Fatalf("%s of %v: %v", name, d, got)
				}
			}
		}
	}
	for name, f := range ofFormats() {
		for _, g := range arguments() {
			for _, g.f = range noFormats() {
				if got := f(g); got.e != api.ErrArg || !got.isEmpty() {
					t.Fatalf("%s with the format %d: %v", name, g.f, got)
				}
			}
		}
	}
}

func TestErrorsGiveNothing(t *testing.T) { // R1, R4
	seen := map[api.Errno]bool{}
	check := func(name string, got call) {
		t.Helper()
		seen[got.e] = true
		if got.e != api.OK && !got.isEmpty() {
			t.Fatalf("%s: error %d, and a result", name, got.e)
		}
	}
	for name, f := range ofFormats() {
		for _, g := range arguments() {
			for g.f = range 7 {
				check(name, f(g))
			}
		}
	}
	for name, f := range ofData() {
		for _, x := range forms() {
			for _, d := range x.data() {
				check(name, f(d))
			}
		}
	}
	if len(seen) != 4 || !seen[api.OK] || !seen[api.ErrArg] || !seen[api.ErrRange] || !seen[api.ErrNone] {
		t.Error(seen)
	}
}

// padded returns a list of elements with something behind its end.
func padded(a api.Nat) api.Nat {
	return append(slices.Clone(a), 77, 78, 79)[:len(a)]
}

// isIntact reports whether a list that was padded is still as it was.
func isIntact(a, was api.Nat) bool {
	return slices.Equal(a[:len(a)+3], append(slices.Clone(was), 77, 78, 79))
}

// spoil overwrites all the memory of the lists of a result.
func (c call) spoil() {
	for _, list := range c.lists {
		list = list[:cap(list)]
		for i := range list {
			list[i] = 0xbad
		}
	}
}

func TestMemory(t *testing.T) { // R6
	for _, x := range forms() {
		for _, was := range x.data() {
			for name, f := range ofData() {
				d := was
				d.Coef = padded(was.Coef)
				f(d).spoil()
				if !isIntact(d.Coef, was.Coef) {
					t.Fatalf("%s changes its argument, or shares its memory", name)
				}
			}
			place := natural(new(big.Int).Abs(x.infinity()))
			g := given{f: x.f, coef: padded(was.Coef), exp: was.Exp, class: was.Class, payload: padded(was.Coef), index: api.Int{Abs: padded(place)}}
			for name, f := range ofFormats() {
				f(g).spoil()
				g.index.Abs = padded(natural(big.NewInt(900)))
				f(g).spoil()
				if !isIntact(g.coef, was.Coef) || !isIntact(g.payload, was.Coef) || !isIntact(g.index.Abs, api.Nat{900}) {
					t.Fatalf("%s changes its argument, or shares its memory", name)
				}
				if again := f(g); again.e == api.OK && slices.ContainsFunc(again.lists, func(a api.Nat) bool { return slices.Contains(a, 0xbad) }) {
					t.Fatalf("%s: what was done to a result is seen in another one", name)
				}
			}
		}
	}
}

func TestFormatsAreCopies(t *testing.T) { // R6, R7
	for _, x := range forms() {
		first, _ := binary.Format(x.f)
		first.Digits, first.Width = 0, 1
		if again, e := binary.Format(x.f); again.Digits != x.p || again.Width != x.width || e != api.OK {
			t.Error("what was done to a format is seen by a later call")
		}
	}
}

func TestSameAgain(t *testing.T) { // R7, and an empty slice is the same as nil
	full := func(a api.Nat) api.Nat { return append(api.Nat{}, a...) }
	for _, x := range forms() {
		for _, d := range append(x.data(), x.invalid()...) {
			other := d
			other.Coef = full(d.Coef)
			for name, f := range ofData() {
				if !f(d).same(f(other)) {
					t.Fatalf("%s of %v: not twice the same", name, d)
				}
			}
		}
		for _, g := range arguments() {
			g.f = x.f
			other := g
			other.coef, other.payload, other.index.Abs = full(g.coef), full(g.payload), full(g.index.Abs)
			for name, f := range ofFormats() {
				if !f(g).same(f(other)) {
					t.Fatalf("%s: not twice the same", name)
				}
			}
		}
	}
}
