package whole_test

import (
	"slices"
	"strings"
	"testing"

	"soroban/api"
	"soroban/whole"
)

// call is what a call gives: integers, an int or a text, and an error.
type call struct {
	integers []api.Int
	i        int
	text     string
	e        api.Errno
}

// function is a function of up to three integers.
type function struct {
	takes int
	call  func(a, b, c api.Int) call
}

// functions returns all functions of integers, with arguments beside them that are right (wrong: with others that would be errors of their own).
func functions(wrong bool) map[string]function {
	count := func(i int, e api.Errno) call { return call{i: i, e: e} }
	one := func(x api.Int, e api.Errno) call { return call{integers: []api.Int{x}, e: e} }
	list := map[string]function{
		"ToInt": {1, func(a, b, c api.Int) call { return count(whole.ToInt(a)) }},
		"Sign":  {1, func(a, b, c api.Int) call { return count(whole.Sign(a)) }},
		"Cmp":   {2, func(a, b, c api.Int) call { return count(whole.Cmp(a, b)) }},
		"Neg":   {1, func(a, b, c api.Int) call { return one(whole.Neg(a)) }},
		"Add":   {2, func(a, b, c api.Int) call { return one(whole.Add(a, b)) }},
		"Sub":   {2, func(a, b, c api.Int) call { return one(whole.Sub(a, b)) }},
		"Mul":   {2, func(a, b, c api.Int) call { return one(whole.Mul(a, b)) }},
		"Gcd": {2, func(a, b, c api.Int) call {
			g, x, y, e := whole.Gcd(a, b)
			return call{integers: []api.Int{g, x, y}, e: e}
		}},
		"Inverse": {2, func(a, b, c api.Int) call { return one(whole.Inverse(a, b)) }},
		"ModPow":  {3, func(a, b, c api.Int) call { return one(whole.ModPow(a, b, c)) }},
		"Not":     {1, func(a, b, c api.Int) call { return one(whole.Not(a)) }},
	}
	shift, power, how, op, size, base := []int{-70, -32, -1, 0, 1, 32}, []int{0, 1, 2, 5}, []int{1, 2, 3, 4}, []int{1, 2, 3}, []int{1, 8, 32, 33, 4096}, []int{2, 10, 36}
	if wrong {
		shift, power, how, op, size, base = []int{1 << 40}, []int{-1}, []int{0, 5}, []int{0, 4}, []int{0, 4097}, []int{1, 37}
	}
	every(list, "Div", how, 2, func(k int, a, b api.Int) call {
		q, r, e := whole.Div(a, b, k)
		return call{integers: []api.Int{q, r}, e: e}
	})
	every(list, "Pow", power, 1, func(k int, a, b api.Int) call { return one(whole.Pow(a, k)) })
	every(list, "Shift", shift, 1, func(k int, a, b api.Int) call { return one(whole.Shift(a, k)) })
	every(list, "Bits", op, 2, func(k int, a, b api.Int) call { return one(whole.Bits(a, b, k)) })
	every(list, "Wrap", size, 1, func(k int, a, b api.Int) call { return one(whole.Wrap(a, k, k%2 == 0)) })
	every(list, "Text", base, 1, func(k int, a, b api.Int) call {
		s, e := whole.Text(a, k, true)
		return call{text: s, e: e}
	})
	return list
}

// every adds a function once for each of some arguments.
func every(list map[string]function, name string, arguments []int, takes int, f func(k int, a, b api.Int) call) {
	for i, k := range arguments {
		list[name+" "+strings.Repeat("i", i+1)] = function{takes, func(a, b, c api.Int) call { return f(k, a, b) }}
	}
}

// isZero reports whether a call gives nothing but an error.
func (c call) isZero() bool {
	return c.i == 0 && c.text == "" && !slices.ContainsFunc(c.integers, func(a api.Int) bool { return a.Neg || len(a.Abs) > 0 })
}

func TestInvalidIntegers(t *testing.T) { // the section Errors, R3, R4: ErrArg comes ahead of all other errors
	for _, wrong := range []bool{false, true} {
		for name, f := range functions(wrong) {
			for _, bad := range invalid() {
				for _, good := range []api.Int{{}, n(1), n(-5), largest(), minus(largest())} {
					for place := range f.takes {
						arguments := [3]api.Int{good, good, good}
						arguments[place] = bad
						got := f.call(arguments[0], arguments[1], arguments[2])
						if got.e != api.ErrArg || !got.isZero() {
							t.Fatalf("%s with an argument %d that is not valid: %v", name, place, got)
						}
					}
				}
			}
		}
	}
}

func TestErrorsGiveNothing(t *testing.T) { // R1, R4
	for _, wrong := range []bool{false, true} {
		for name, f := range functions(wrong) {
			for _, a := range []api.Int{{}, n(1), n(-1), n(12), largest(), minus(largest())} {
				for _, b := range []api.Int{{}, n(1), n(-4), largest()} {
					got := f.call(a, b, n(-4))
					if got.e != api.OK && !got.isZero() {
						t.Fatalf("%s: %v", name, got)
					}
				}
			}
		}
	}
}

// padded returns an integer with something behind the end of its elements.
func padded(a api.Int) api.Int {
	long := append(slices.Clone(a.Abs), 77, 78, 79)
	return api.Int{Neg: a.Neg, Abs: long[:len(a.Abs)]}
}

// isIntact reports whether a padded integer is still as it was.
func isIntact(a, was api.Int) bool {
	return a.Neg == was.Neg && slices.Equal(a.Abs[:len(was.Abs)+3], append(slices.Clone(was.Abs), 77, 78, 79))
}

// spoil overwrites all the memory of an integer.
func spoil(a api.Int) {
	long := a.Abs[:cap(a.Abs)]
	for i := range long {
		long[i] = 0xbad
	}
}

func TestMemory(t *testing.T) { // R6
	long := api.Int{Neg: true, Abs: append(api.Nat{5, 6}, filled(150, most)...)}
	list := []api.Int{{}, n(1), n(-1), n(7), n(-8), near(64, 0), minus(near(64, 1)), near(90, 5), long}
	for name, f := range functions(false) {
		for i, x := range list {
			y, z := list[(i*4+1)%len(list)], n(1000003)
			for _, y := range []api.Int{y, x} {
				a, b, c := padded(x), padded(y), padded(z)
				got := f.call(a, b, c)
				intact := func() bool { return isIntact(a, x) && isIntact(b, y) && isIntact(c, z) }
				if !intact() {
					t.Fatalf("%s changes an argument", name)
				}
				checkApart(t, name, got.integers)
				if !intact() {
					t.Fatalf("%s: a result shares memory with an argument", name)
				}
			}
		}
	}
}

// checkApart checks that integers share no memory, and spoils them.
func checkApart(t *testing.T, name string, list []api.Int) {
	t.Helper()
	var copies []api.Nat
	for _, a := range list {
		copies = append(copies, slices.Clone(a.Abs))
	}
	for i, a := range list {
		if !slices.Equal(a.Abs, copies[i]) {
			t.Fatalf("%s: results share memory", name)
		}
		spoil(a)
	}
}

func TestMemoryOfConstants(t *testing.T) { // R6
	value := padded(near(70, 1))
	c := api.Constant{Value: value.Abs, Base: 8}
	s, e := whole.PrintC(c)
	_, f := whole.TypeC(c)
	if e != api.OK || f != api.ErrRange || !isIntact(value, near(70, 1)) {
		t.Error(s, e, f, value)
	}
	first, _, _ := whole.ParseC(s)
	again, _, _ := whole.ParseC(s)
	spoil(api.Int{Abs: first.Value})
	if !slices.Equal(again.Value, near(70, 1).Abs) {
		t.Error("ParseC: results share memory")
	}
}

func TestSameAgain(t *testing.T) { // R7, and an empty slice is the same as nil
	other := func(a api.Int) api.Int { return api.Int{Neg: a.Neg, Abs: append(api.Nat{}, a.Abs...)} }
	list := []api.Int{{}, n(3), n(-3), near(100, 1), largest()}
	for name, f := range functions(false) {
		for _, a := range list {
			for _, b := range list {
				first, again := f.call(a, b, n(7)), f.call(other(a), other(b), other(n(7)))
				if first.e != again.e || first.i != again.i || first.text != again.text || !slices.EqualFunc(first.integers, again.integers, equalInts) {
					t.Errorf("%s: %v and %v", name, first, again)
				}
			}
		}
	}
	for _, value := range []api.Nat{nil, {}} {
		c := api.Constant{Value: value, Base: 16}
		s, e := whole.PrintC(c)
		if kind, f := whole.TypeC(c); s != "0x0" || e != api.OK || f != api.OK || kind != (api.CType{}) {
			t.Error(s, e, kind, f)
		}
	}
}
