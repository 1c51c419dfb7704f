package whole

import (
	"soroban/api"
	"soroban/guard"
	"soroban/nat"
)

// integer is an api.Int that is valid, or one that only has too many elements. What a method returns may share memory with the integers that it was given: nothing changes the elements of an integer, and what leaves the package is copied.
type integer api.Int

// signed returns an integer with a magnitude, which is negative if it says so and is not 0.
func signed(negative bool, magnitude api.Nat) integer {
	return integer{Neg: negative && len(magnitude) > 0, Abs: magnitude}
}

// compareNats returns -1, 0 or 1 for two valid natural numbers.
func compareNats(a, b api.Nat) int {
	c, e := nat.Cmp(a, b)
	guard.Must(e == api.OK, e)
	return c
}

// trimmed returns a list of elements without the zeros at its end.
func trimmed(a api.Nat) api.Nat {
	n := len(a)
	for n > 0 && a[n-1] == 0 {
		n--
	}
	return a[:n]
}

// bitsOf returns how many bits a valid natural number has.
func bitsOf(a api.Nat) int {
	n, e := nat.Bits(a)
	guard.Must(e == api.OK, e)
	return n
}

// wordOf returns a natural number as a word; one that is too large for it ends the call with ErrRange.
func wordOf(a api.Nat) uint64 {
	n, e := nat.ToUint(a)
	guard.Must(e == api.OK, e)
	return n
}

// fromInt returns the integer that an int is. The magnitude of the least int is no int, but a uint64.
func fromInt(n int) integer {
	if n < 0 {
		return integer{Neg: true, Abs: nat.FromUint(-uint64(n))}
	}
	return integer{Abs: nat.FromUint(uint64(n))}
}

// int returns the int that an integer is; if it is too large, the call ends with ErrRange.
func (a integer) int() int {
	n := wordOf(a.Abs)
	if a.Neg {
		guard.Must(n <= 1<<63, api.ErrRange)
		return int(-n)
	}
	guard.Must(n < 1<<63, api.ErrRange)
	return int(n)
}

func (a integer) sign() int {
	switch {
	case a.Neg:
		return -1
	case len(a.Abs) == 0:
		return 0
	}
	return 1
}

func (a integer) compare(b integer) int {
	switch {
	case a.Neg && b.Neg:
		return compareNats(b.Abs, a.Abs)
	case a.Neg:
		return -1
	case b.Neg:
		return 1
	}
	return compareNats(a.Abs, b.Abs)
}

func (a integer) opposite() integer {
	return signed(!a.Neg, a.Abs)
}

func (a integer) plus(b integer) integer {
	switch {
	case a.Neg == b.Neg:
		return signed(a.Neg, guard.Found(nat.Add(a.Abs, b.Abs)))
	case compareNats(a.Abs, b.Abs) < 0:
		return signed(b.Neg, guard.Found(nat.Sub(b.Abs, a.Abs)))
	}
	return signed(a.Neg, guard.Found(nat.Sub(a.Abs, b.Abs)))
}

func (a integer) minus(b integer) integer {
	return a.plus(b.opposite())
}

func (a integer) times(b integer) integer {
	return signed(a.Neg != b.Neg, guard.Found(nat.Mul(a.Abs, b.Abs)))
}
