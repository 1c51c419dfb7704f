package nat_test

import (
	"math"
	"slices"
	"testing"

	"soroban/api"
	"soroban/nat"
)

// call is what a call gives: numbers, an int or a text, and an error.
type call struct {
	numbers []api.Nat
	n       int
	text    string
	e       api.Errno
}

// calls returns all functions whose arguments are one or two numbers, with arguments beside them that are right (wrong: with others that would be errors of their own).
func calls(wrong bool) map[string]func(a, b api.Nat) call {
	n, cut := 3, 5
	if wrong {
		n, cut = -1, 0
	}
	number := func(x api.Nat, e api.Errno) call { return call{numbers: []api.Nat{x}, e: e} }
	twoNumbers := func(x, y api.Nat, e api.Errno) call { return call{numbers: []api.Nat{x, y}, e: e} }
	count := func(n int, e api.Errno) call { return call{n: n, e: e} }
	return map[string]func(a, b api.Nat) call{
		"ToUint": func(a, b api.Nat) call {
			n, e := nat.ToUint(a)
			return call{n: int(n), e: e}
		},
		"Cmp":   func(a, b api.Nat) call { return count(nat.Cmp(a, b)) },
		"Bits":  func(a, b api.Nat) call { return count(nat.Bits(a)) },
		"Zeros": func(a, b api.Nat) call { return count(nat.Zeros(a)) },
		"Text": func(a, b api.Nat) call {
			s, e := nat.Text(a)
			return call{text: s, e: e}
		},
		"Add":       func(a, b api.Nat) call { return number(nat.Add(a, b)) },
		"Sub":       func(a, b api.Nat) call { return number(nat.Sub(a, b)) },
		"Mul":       func(a, b api.Nat) call { return number(nat.Mul(a, b)) },
		"School":    func(a, b api.Nat) call { return number(nat.School(a, b)) },
		"Karatsuba": func(a, b api.Nat) call { return number(nat.Karatsuba(a, b, cut)) },
		"Gcd":       func(a, b api.Nat) call { return number(nat.Gcd(a, b)) },
		"Pow":       func(a, b api.Nat) call { return number(nat.Pow(a, n)) },
		"Pow 1":     func(a, b api.Nat) call { return number(nat.Pow(a, min(n, 1))) },
		"Shl":       func(a, b api.Nat) call { return number(nat.Shl(a, n)) },
		"Shl 0":     func(a, b api.Nat) call { return number(nat.Shl(a, min(n, 0))) },
		"Shr":       func(a, b api.Nat) call { return number(nat.Shr(a, n)) },
		"Shr 0":     func(a, b api.Nat) call { return number(nat.Shr(a, min(n, 0))) },
		"Shr 32":    func(a, b api.Nat) call { return number(nat.Shr(a, n+29)) },
		"Div":       func(a, b api.Nat) call { return twoNumbers(nat.Div(a, b)) },
		"Long":      func(a, b api.Nat) call { return twoNumbers(nat.Long(a, b)) },
		"Blocks":    func(a, b api.Nat) call { return twoNumbers(nat.Blocks(a, b, cut)) },
		"Newton":    func(a, b api.Nat) call { return twoNumbers(nat.Newton(a, b)) },
		"Root":      func(a, b api.Nat) call { return twoNumbers(nat.Root(a, n)) },
		"Root 1":    func(a, b api.Nat) call { return twoNumbers(nat.Root(a, min(n, 1))) },
		"Root of many": func(a, b api.Nat) call {
			return twoNumbers(nat.Root(a, n*100000))
		},
	}
}

// takesOne reports whether a function takes one number only.
func takesOne(name string) bool {
	switch name {
	case "Add", "Sub", "Mul", "School", "Karatsuba", "Gcd", "Cmp", "Div", "Long", "Blocks", "Newton":
		return false
	}
	return true
}

func TestInvalidNumbers(t *testing.T) { // the section Errors, R3, R4
	for _, wrong := range []bool{false, true} {
		for name, f := range calls(wrong) {
			for _, bad := range invalid() {
				for _, good := range []api.Nat{nil, {1}, largest()} {
					results := []call{f(bad, good)}
					if !takesOne(name) {
						results = append(results, f(good, bad), f(bad, bad))
					}
					for _, c := range results {
						empty := !slices.ContainsFunc(c.numbers, func(a api.Nat) bool { return len(a) != 0 })
						if c.e != api.ErrArg || !empty || c.n != 0 || c.text != "" {
							t.Fatalf("%s with %d elements: %v", name, len(bad), c)
						}
					}
				}
			}
		}
	}
}

func TestInvalidAheadOfOthers(t *testing.T) { // R3: ErrArg comes ahead of all errors that other arguments cause
	bad := api.Nat{1, 0}
	for name, e := range map[string]api.Errno{
		"Pow":    second(nat.Pow(filled(1025, 1), math.MaxInt)),
		"Shl":    second(nat.Shl(bad, math.MaxInt)),
		"Sub":    second(nat.Sub(nil, bad)),
		"Mul":    second(nat.Mul(filled(1025, 1), filled(1024, 1))),
		"School": second(nat.School(filled(1025, 1), filled(1024, 1))),
		"Div":    third(nat.Div(bad, nil)),
		"Long":   third(nat.Long(bad, nil)),
		"Blocks": third(nat.Blocks(bad, nil, 2)),
		"Newton": third(nat.Newton(bad, nil)),
	} {
		if e != api.ErrArg {
			t.Errorf("%s: error %d", name, e)
		}
	}
}

func second(_ api.Nat, e api.Errno) api.Errno   { return e }
func third(_, _ api.Nat, e api.Errno) api.Errno { return e }

// padded returns a number with something behind the end of its slice.
func padded(a api.Nat) api.Nat {
	long := append(slices.Clone(a), 77, 78, 79)
	return long[:len(a)]
}

// spoil overwrites all the memory of a slice.
func spoil(a api.Nat) {
	a = a[:cap(a)]
	for i := range a {
		a[i] = 0xbad
	}
}

func TestMemory(t *testing.T) { // R6
	long := append(api.Nat{5, 6}, filled(300, most)...)
	arguments := [][2]api.Nat{{nil, {7}}, {{7}, nil}, {{0, 0, 1, 9}, {4}}, {{4}, {0, 0, 1, 9}}, {{5, 8}, {5, 8}}, {long, {1, 2, 3}}, {{1, 2, 3}, long}, {long, filled(120, 9)}, {long, long}, {{0, 1}, {1}}}
	for name, f := range calls(false) {
		for _, c := range arguments {
			a, b := padded(c[0]), padded(c[1])
			got := f(a, b)
			intact := func() bool {
				return slices.Equal(a[:len(a)+3], append(slices.Clone(c[0]), 77, 78, 79)) && slices.Equal(b[:len(b)+3], append(slices.Clone(c[1]), 77, 78, 79))
			}
			if !intact() {
				t.Fatalf("%s changes an argument", name)
			}
			var copies []api.Nat
			for _, x := range got.numbers {
				copies = append(copies, slices.Clone(x))
			}
			for i, x := range got.numbers {
				for j := range i {
					spoil(got.numbers[j])
				}
				if !slices.Equal(x, copies[i]) {
					t.Fatalf("%s: results share memory", name)
				}
				spoil(x)
			}
			if !intact() {
				t.Fatalf("%s: a result shares memory with an argument", name)
			}
		}
	}
}

func TestSameAgain(t *testing.T) { // R7, and an empty slice is the same as nil
	for name, f := range calls(false) {
		for _, c := range [][2]api.Nat{{nil, {3}}, {{3}, nil}, {nil, nil}, {filled(90, most), filled(40, 3)}} {
			first, again := f(c[0], c[1]), f(append(api.Nat{}, c[0]...), append(api.Nat{}, c[1]...))
			if first.e != again.e || first.n != again.n || first.text != again.text || !slices.EqualFunc(first.numbers, again.numbers, slices.Equal[api.Nat]) {
				t.Errorf("%s: %v and %v", name, first, again)
			}
		}
	}
}
