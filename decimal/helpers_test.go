package decimal_test

import (
	"fmt"
	"math/big"
	"math/rand"
	"slices"
	"strings"
	"sync"
	"testing"

	"soroban/api"
	"soroban/decimal"
	"soroban/nat"
)

// form is a decimal format as the chapter's table says it.
type form struct{ f, p, qmin, qmax, w, t int }

func forms() []form {
	return []form{
		{api.FmDec32, 7, -101, 90, 6, 20},
		{api.FmDec64, 16, -398, 369, 8, 50},
		{api.FmDec128, 34, -6176, 6111, 12, 110},
	}
}

// width returns how many bits a format has.
func (x form) width() int { return 1 + 5 + x.w + x.t }

func encodings() []int { return []int{api.EnPacked, api.EnBinary} }

// power returns a power of a base, and something more or less.
func power(base int64, n, more int) *big.Int {
	x := new(big.Int).Exp(big.NewInt(base), big.NewInt(int64(n)), nil)
	return x.Add(x, big.NewInt(int64(more)))
}

// oracle returns a natural number as package big has it.
func oracle(a api.Nat) *big.Int {
	x := new(big.Int)
	for i, w := range a {
		x.Add(x, new(big.Int).Lsh(big.NewInt(int64(w)), uint(32*i)))
	}
	return x
}

// natural returns a number of package big that is not negative.
func natural(x *big.Int) api.Nat {
	var a api.Nat
	for rest := x; rest.Sign() > 0; rest = new(big.Int).Rsh(rest, 32) {
		a = append(a, uint32(rest.Uint64()))
	}
	return a
}

// bigRat returns a rational number as package big has it.
func bigRat(a api.Rat) *big.Rat {
	num := oracle(a.Num.Abs)
	if a.Num.Neg {
		num.Neg(num)
	}
	return new(big.Rat).SetFrac(num, oracle(a.Den))
}

// number returns the number that is written in a base.
func number(s string, base int) *big.Int {
	x, ok := new(big.Int).SetString(s, base)
	if !ok {
		panic(s)
	}
	return x
}

// raw returns bits that are written as binary digits.
func raw(s string) api.Raw {
	x := number(s, 2)
	return api.Raw{Hi: new(big.Int).Rsh(x, 64).Uint64(), Lo: new(big.Int).And(x, power(2, 64, -1)).Uint64()}
}

// written returns the bits of a format as binary digits.
func (x form) written(r api.Raw) string {
	return fmt.Sprintf("%064b%064b", r.Hi, r.Lo)[128-x.width():]
}

// tenBits returns which digits ten bits mean, in binary notation; the patterns are those of the table of the standard IEEE 754, with p to y for the bits.
func tenBits(bits string) string {
	for _, row := range [][2]string{
		{"......0...", "0pqr 0stu 0wxy"},
		{"......100.", "0pqr 0stu 100y"},
		{"......101.", "0pqr 100u 0sty"},
		{"......110.", "100r 0stu 0pqy"},
		{"...00.111.", "100r 100u 0pqy"},
		{"...01.111.", "100r 0pqu 100y"},
		{"...10.111.", "0pqr 100u 100y"},
		{"...11.111.", "100r 100u 100y"},
	} {
		fits := true
		meaning := row[1]
		for i, c := range row[0] {
			fits = fits && (c == '.' || byte(c) == bits[i])
			meaning = strings.ReplaceAll(meaning, "pqrstuvwxy"[i:i+1], bits[i:i+1])
		}
		if fits {
			digits := ""
			for _, digit := range strings.Fields(meaning) {
				digits += number(digit, 2).String()
			}
			return digits
		}
	}
	panic(bits)
}

// meanings returns for all ten bits which digits they mean.
var meanings = sync.OnceValue(func() map[string]string {
	all := map[string]string{}
	for n := range 1024 {
		bits := fmt.Sprintf("%010b", n)
		all[bits] = tenBits(bits)
	}
	return all
})

// packed returns for all three digits the least ten bits that mean them.
var packed = sync.OnceValue(func() map[string]string {
	least := map[string]string{}
	for bits, digits := range meanings() {
		if other, ok := least[digits]; !ok || bits < other {
			least[digits] = bits
		}
	}
	return least
})

// special returns the start of the combination of a datum that is not finite.
func special(class int) string {
	return map[int]string{api.ClInf: "11110", api.ClQuiet: "11111", api.ClSignal: "111111"}[class]
}

// encoded returns the canonical bits of a valid datum, as the chapter says it.
func (x form) encoded(d api.Datum, enc int) api.Raw {
	sign := map[bool]string{false: "0", true: "1"}[d.Neg]
	exp := fmt.Sprintf("%0*b", x.w+2, d.Exp-x.qmin)
	if enc == api.EnPacked {
		digits := fmt.Sprintf("%0*d", x.p, oracle(d.Coef))
		tail := ""
		for i := 1; i < x.p; i += 3 {
			tail += packed()[digits[i:i+3]]
		}
		if d.Class != api.ClFinite {
			return raw(sign + special(d.Class) + strings.Repeat("0", x.w+5-len(special(d.Class))) + tail)
		}
		first := fmt.Sprintf("%04b", digits[0]-'0')
		if first[0] == '1' {
			return raw(sign + "11" + exp[:2] + first[3:] + exp[2:] + tail)
		}
		return raw(sign + exp[:2] + first[1:] + exp[2:] + tail)
	}
	coef := fmt.Sprintf("%0*b", x.t+4, oracle(d.Coef))
	switch {
	case d.Class != api.ClFinite:
		return raw(sign + special(d.Class) + strings.Repeat("0", x.w+5-len(special(d.Class))) + coef[4:])
	case coef[0] == '1':
		return raw(sign + "11" + exp + coef[3:])
	}
	return raw(sign + exp + coef[1:])
}

// meaning returns the datum that bits mean, and whether they are canonical, as the chapter says it.
func (x form) meaning(r api.Raw, enc int) (api.Datum, bool) {
	all := x.written(r)
	g, t := all[1:x.w+6], all[x.w+6:]
	d := api.Datum{Fmt: x.f, Class: api.ClFinite, Neg: all[0] == '1'}
	digits, isLeast := x.tail(t, enc)
	limit, canonical := power(10, x.p-1, 0), isLeast
	coef := number(digits, 10)
	switch {
	case g[:5] == "11110":
		d.Class = api.ClInf
		return d, !strings.Contains(g[5:]+t, "1")
	case g[:6] == "111111":
		d.Class, canonical = api.ClSignal, canonical && !strings.Contains(g[6:], "1")
	case g[:5] == "11111":
		d.Class, canonical = api.ClQuiet, canonical && !strings.Contains(g[6:], "1")
	default:
		limit = power(10, x.p, 0)
		var exp string
		exp, coef = x.finite(g, t, digits, enc)
		d.Exp = x.qmin + int(number(exp, 2).Int64())
	}
	if coef.Cmp(limit) >= 0 {
		return d, false
	}
	d.Coef = natural(coef)
	return d, canonical
}

// tail returns the decimal digits of trailing bits, and whether these are the least ones that mean them.
func (x form) tail(t string, enc int) (string, bool) {
	if enc == api.EnBinary {
		return number(t, 2).String(), true
	}
	digits, isLeast := "", true
	for ; t != ""; t = t[10:] {
		three := meanings()[t[:10]]
		digits += three
		isLeast = isLeast && packed()[three] == t[:10]
	}
	return digits, isLeast
}

// finite returns the exponent, in binary digits, and the coefficient of a finite datum.
func (x form) finite(g, t, digits string, enc int) (string, *big.Int) {
	large := g[:2] == "11"
	switch {
	case enc == api.EnPacked && large:
		return g[2:4] + g[5:], number(map[byte]string{'0': "8", '1': "9"}[g[4]]+digits, 10)
	case enc == api.EnPacked:
		return g[:2] + g[5:], number(number(g[2:5], 2).String()+digits, 10)
	case large:
		return g[2 : x.w+4], number("100"+g[x.w+4:]+t, 2)
	}
	return g[:x.w+2], number(g[x.w+2:]+t, 2)
}

// finiteDatum returns coef times 10^exp, without a look at whether it is valid.
func (x form) finiteDatum(neg bool, coef *big.Int, exp int) api.Datum {
	return api.Datum{Fmt: x.f, Class: api.ClFinite, Neg: neg, Coef: natural(coef), Exp: exp}
}

// specialDatum returns a datum that is not finite, without a look at whether it is valid.
func (x form) specialDatum(class int, neg bool, payload *big.Int) api.Datum {
	return api.Datum{Fmt: x.f, Class: class, Neg: neg, Coef: natural(payload)}
}

// below returns some number below 10^n, often one with zeros at its end.
func below(r *rand.Rand, n int) *big.Int {
	x := new(big.Int).Rand(r, power(10, 1+r.Intn(n), 0))
	if r.Intn(2) == 0 {
		return x
	}
	ten := power(10, r.Intn(n), 0)
	return x.Mul(x.Quo(x, ten), ten)
}

// coefs returns coefficients at which something changes, and some others.
func (x form) coefs() []*big.Int {
	list := []*big.Int{new(big.Int)}
	for n := range x.p {
		list = append(list, power(10, n, 0), power(10, n+1, -1))
	}
	for n := int64(7); n <= 9; n++ {
		list = append(list, new(big.Int).Mul(big.NewInt(n), power(10, x.p-1, 0)))
		list = append(list, new(big.Int).Mul(big.NewInt(n), power(2, x.t, 0)))
	}
	list = append(list, power(2, x.t, -1), power(2, x.t+2, 1), power(2, x.t+3, -1), power(2, x.t+3, 1), power(2, x.t+3, 1<<20))
	r := rand.New(rand.NewSource(int64(x.f)))
	for range 30 {
		list = append(list, below(r, x.p))
	}
	return slices.DeleteFunc(list, func(c *big.Int) bool { return c.Cmp(power(10, x.p, 0)) >= 0 })
}

// exps returns exponents at which something changes, and some others.
func (x form) exps() []int {
	list := []int{x.qmin, x.qmin + 1, x.qmin + x.p, -x.p, -1, 0, 1, x.qmax - x.p, x.qmax - 1, x.qmax, x.qmin + 1<<x.w - 1, x.qmin + 1<<x.w, x.qmin + 2<<x.w}
	r := rand.New(rand.NewSource(int64(x.f)))
	for range 5 {
		list = append(list, x.qmin+r.Intn(x.qmax-x.qmin+1))
	}
	return list
}

// numbers returns finite data.
func (x form) numbers() []api.Datum {
	var list []api.Datum
	for i, coef := range x.coefs() {
		for k, exp := range x.exps() {
			list = append(list, x.finiteDatum((i+k)%2 == 0, coef, exp))
		}
	}
	return list
}

// others returns data that are not finite.
func (x form) others() []api.Datum {
	var list []api.Datum
	for _, neg := range []bool{false, true} {
		list = append(list, x.specialDatum(api.ClInf, neg, new(big.Int)))
		for _, coef := range x.coefs() {
			if payload := new(big.Int).Mod(coef, power(10, x.p-1, 0)); payload.Cmp(coef) == 0 {
				list = append(list, x.specialDatum(api.ClQuiet, neg, payload), x.specialDatum(api.ClSignal, neg, payload))
			}
		}
	}
	return list
}

// data returns data of all classes.
func (x form) data() []api.Datum { return append(x.numbers(), x.others()...) }

// raws returns bits of a format: each combination of starts, ends and tails at which something changes, and some others.
func (x form) raws() []api.Raw {
	r := rand.New(rand.NewSource(int64(x.f)))
	some := func(n int) string { return fmt.Sprintf("%0*b", n, new(big.Int).Rand(r, power(2, n, 0))) }
	ends := []string{strings.Repeat("0", x.w), strings.Repeat("1", x.w), "1" + strings.Repeat("0", x.w-1), strings.Repeat("0", x.w-1) + "1", "01" + strings.Repeat("0", x.w-2), some(x.w)}
	tails := []string{strings.Repeat("0", x.t), strings.Repeat("1", x.t), strings.Repeat("0", x.t-1) + "1", strings.Repeat("0011111111", x.t/10), strings.Repeat("0", x.t-10) + "1101101110"}
	for _, around := range []*big.Int{power(10, x.p-1, 0), new(big.Int).Mod(power(10, x.p, 0), power(2, x.t, 0)), new(big.Int).Mod(power(10, x.p-1, 0), power(2, x.t, 0))} {
		for more := int64(-1); more <= 1; more++ {
			tails = append(tails, fmt.Sprintf("%0*b", x.t, new(big.Int).Add(around, big.NewInt(more))))
		}
	}
	for range 4 {
		tails = append(tails, some(x.t))
	}
	var list []api.Raw
	for start := range 64 { // with the sign
		for _, end := range ends {
			for _, tail := range tails {
				list = append(list, raw(fmt.Sprintf("%06b", start)+end+tail))
			}
		}
	}
	return list
}

// tooLarge returns bits that a format does not have.
func (x form) tooLarge() []api.Raw {
	var list []api.Raw
	for n := x.width(); n < 128; n++ {
		list = append(list, raw("1"+strings.Repeat("0", n)), raw("1"+strings.Repeat("1", n)))
	}
	return list
}

// invalid returns data that are not valid.
func (x form) invalid() []api.Datum {
	var list []api.Datum
	add := func(f, class, exp int, coefs ...api.Nat) {
		for _, coef := range coefs {
			for _, neg := range []bool{false, true} {
				list = append(list, api.Datum{Fmt: f, Class: class, Neg: neg, Coef: coef, Exp: exp})
			}
		}
	}
	for _, f := range []int{-1, 0, 1, api.FmQuad, 9, 1 << 40} {
		add(f, api.ClFinite, 0, nil)
		add(f, api.ClInf, 0, nil)
	}
	for _, class := range []int{-1, 0, 5, 1 << 33} {
		add(x.f, class, 0, nil, api.Nat{5})
	}
	for _, exp := range []int{-1 << 63, x.qmin - 1, x.qmax + 1, 1<<63 - 1} {
		add(x.f, api.ClFinite, exp, nil, api.Nat{1}, natural(power(10, x.p, -1)))
	}
	long := []api.Nat{natural(power(2, 128, 0)), natural(power(2, 128, 1)), natural(power(2, 4000, 5)), {0}, {7, 0}, {0, 0, 0, 0}, make(api.Nat, 1025), slices.Repeat(api.Nat{1}, 1025)}
	for _, exp := range []int{x.qmin, 0, x.qmax} {
		add(x.f, api.ClFinite, exp, natural(power(10, x.p, 0)), natural(power(10, x.p, 1)), natural(power(2, 128, -1)))
		add(x.f, api.ClFinite, exp, long...)
	}
	for _, class := range []int{api.ClInf, api.ClQuiet, api.ClSignal} {
		add(x.f, class, 0, natural(power(10, x.p-1, 0)), natural(power(10, x.p, -1)))
		add(x.f, class, 0, long...)
		for _, exp := range []int{-1, 1, x.qmin} {
			add(x.f, class, exp, nil)
		}
	}
	add(x.f, api.ClInf, 0, api.Nat{1})
	return list
}

// checkEqual checks that a call gives a datum, in all fields, with a valid coefficient.
func checkEqual(t *testing.T, what string, got api.Datum, e api.Errno, want api.Datum) {
	t.Helper()
	if e != api.OK || got.Fmt != want.Fmt || got.Class != want.Class || got.Neg != want.Neg || got.Exp != want.Exp || !slices.Equal(got.Coef, want.Coef) || !nat.Valid(got.Coef) {
		t.Fatalf("%s: %v and error %d, not %v", what, got, e, want)
	}
}

// sure returns the result of a call that should have no error.
func sure[T any](t *testing.T) func(x T, e api.Errno) T {
	return func(x T, e api.Errno) T {
		t.Helper()
		if e != api.OK {
			t.Fatalf("error %d", e)
		}
		return x
	}
}

// value returns the value of a finite datum.
func value(t *testing.T, d api.Datum) *big.Rat {
	t.Helper()
	return bigRat(sure[api.Rat](t)(decimal.Value(d)))
}

// scaled returns a number times 10^exp.
func scaled(coef *big.Int, exp int) *big.Rat {
	if exp < 0 {
		return new(big.Rat).SetFrac(coef, power(10, -exp, 0))
	}
	return new(big.Rat).SetInt(power(10, exp, 0).Mul(coef, power(10, exp, 0)))
}

// signed returns the coefficient of a datum with its sign.
func signed(d api.Datum) *big.Int {
	if d.Neg {
		return oracle(d.Coef).Neg(oracle(d.Coef))
	}
	return oracle(d.Coef)
}
