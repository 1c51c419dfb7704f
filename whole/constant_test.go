package whole_test

import (
	"math"
	"math/big"
	"regexp"
	"slices"
	"strings"
	"testing"

	"soroban/api"
	"soroban/whole"
)

// What constants look like, and their beginnings.
const (
	base16   = `0[xX][0-9a-fA-F]('?[0-9a-fA-F])*`
	base2    = `0[bB][01]('?[01])*`
	base8    = `0('?[0-7])*`
	base10   = `[1-9]('?[0-9])*`
	suffix   = `([uU](l|L|ll|LL)?|(l|L|ll|LL)[uU]?)?`
	constant = `(` + base16 + `|` + base2 + `|` + base8 + `|` + base10 + `)`
)

var (
	wholeConstant = regexp.MustCompile(`^` + constant + suffix + `$`)
	beginning     = regexp.MustCompile(`^(` + constant + `(` + suffix + `|')|0[xX]|0[bB]|)$`)
)

// longestBeginning returns how many bytes of a text could begin a constant.
func longestBeginning(s string) int {
	for at := len(s); ; at-- {
		if beginning.MatchString(s[:at]) {
			return at
		}
	}
}

// sayOf returns what package big and the words of the suffix say for a constant.
func sayOf(s string) api.Constant {
	digits := strings.ReplaceAll(strings.TrimRight(s, "uUlL"), "'", "")
	end := strings.ToLower(s[len(strings.TrimRight(s, "uUlL")):])
	c := api.Constant{Base: 10, Unsigned: strings.Contains(end, "u"), Length: strings.Count(end, "l")}
	switch {
	case strings.HasPrefix(strings.ToLower(digits), "0x"):
		c.Base, digits = 16, digits[2:]
	case strings.HasPrefix(strings.ToLower(digits), "0b"):
		c.Base, digits = 2, digits[2:]
	case digits[0] == '0':
		c.Base = 8
	}
	x, _ := new(big.Int).SetString(digits, c.Base)
	c.Value = own(x).Abs
	return c
}

func equalConstants(a, b api.Constant) bool {
	return slices.Equal(a.Value, b.Value) && a.Base == b.Base && a.Unsigned == b.Unsigned && a.Length == b.Length
}

// checkParseC checks ParseC by the expressions above.
func checkParseC(t *testing.T, s string) {
	t.Helper()
	c, e, at := whole.ParseC(s)
	if wholeConstant.MatchString(s) {
		if want := sayOf(s); e != api.OK || at != 0 || !equalConstants(c, want) {
			t.Fatalf("ParseC of %q: %v, error %d at %d, not %v", s, c, e, at, want)
		}
		return
	}
	wrongParseC(t, s, api.ErrForm, longestBeginning(s))
}

// wrongParseC checks an error of ParseC.
func wrongParseC(t *testing.T, s string, want api.Errno, offset int) {
	t.Helper()
	c, e, at := whole.ParseC(s)
	if e != want || at != offset || !equalConstants(c, api.Constant{}) {
		t.Fatalf("ParseC of %.40q: %v, error %d at %d, not error %d at %d", s, c, e, at, want, offset)
	}
}

// texts returns all texts of up to n of some pieces.
func texts(n int, pieces ...string) []string {
	list, last := []string{""}, []string{""}
	for range n {
		var next []string
		for _, s := range last {
			for _, p := range pieces {
				next = append(next, s+p)
			}
		}
		list, last = append(list, next...), next
	}
	return list
}

func TestParseC(t *testing.T) { // V12: all short texts
	for _, s := range texts(5, "0", "1", "8", "x", "b", "'", "u", "L", "l") {
		checkParseC(t, s)
	}
	for _, s := range texts(3, "0", "7", "9", "X", "B", "a", "F", "g", "U", "u", "l", "LL", "'", " ", "-", "\x00") {
		checkParseC(t, s)
	}
	for _, digits := range []string{"0", "7", "19", "007", "0'7", "0x1", "0XbF", "0b1", "0B10'1", "1'0", "0x'", "0x", "12'"} {
		for _, s := range texts(4, "u", "U", "l", "L") {
			checkParseC(t, digits+s)
			checkParseC(t, digits+s+"1")
		}
	}
	for _, s := range []string{"0x1'Full", "4'294'967'296", "0xDEAD'beef'DEAD'beef'DEAD", "01777777777777777777777", "0'1'2'3", "0b1'0000'0000'0000'0000'0000'0000'0000'0000", "123456789012345678901234567890LLU", "0x", "0xx", "0xu", "0b2", "00x1", "0o7", "1e5", "1.0", "+1", "-1", " 1", "1 ", "1i64", "0x1p3", "1é", "٣", "\xff", "1ulul", "1lul", "0x0'", "0'", "0'8", "08", "018"} {
		checkParseC(t, s)
	}
}

func TestParseCErrors(t *testing.T) { // V12: both limits, and that the form comes between them
	for _, s := range []string{strings.Repeat("0", 20001), strings.Repeat("1", 20001), "0x" + strings.Repeat("g", 19999), strings.Repeat("'", 30000)} {
		wrongParseC(t, s, api.ErrLimit, 0)
	}
	for _, s := range []string{strings.Repeat("9", 20000), "0x1" + strings.Repeat("0", 8192), "04" + strings.Repeat("0", 10922), "1" + strings.Repeat("'0", 9990) + "uLL"} {
		wrongParseC(t, s, api.ErrLimit, 0)
	}
	wrongParseC(t, strings.Repeat("9", 19999)+"x", api.ErrForm, 19999)
	wrongParseC(t, "0x1"+strings.Repeat("0", 9000)+"ulu", api.ErrForm, 9005)
	wrongParseC(t, strings.Repeat("1'", 10000), api.ErrForm, 20000)
	wrongParseC(t, strings.Repeat("0", 19999)+"8", api.ErrForm, 19999)
	for _, s := range []string{strings.Repeat("0", 20000), strings.Repeat("0", 19999) + "7", "0x" + strings.Repeat("0", 19996) + "1u", "0b" + strings.Repeat("1", 19998), "0x" + strings.Repeat("f", 8192) + "llu", "03" + strings.Repeat("7", 10922), largestText()} {
		checkParseC(t, s)
	}
}

// largestText returns the decimal digits of the greatest integer.
func largestText() string { return oracle(largest()).String() }

func TestPrintC(t *testing.T) { // V12
	prefixes := map[int]string{2: "0b", 8: "0", 10: "", 16: "0x"}
	suffixes := map[bool][]string{false: {"", "L", "LL"}, true: {"U", "UL", "ULL"}}
	for _, a := range append(integers(), largest()) {
		for base, prefix := range prefixes {
			for unsigned, list := range suffixes {
				for length, end := range list {
					if len(a.Abs) == 0 && base == 10 {
						continue
					}
					x := new(big.Int).Abs(oracle(a))
					want := prefix + x.Text(base) + end
					if x.Sign() == 0 && base == 8 {
						want = "0" + end
					}
					s, e := whole.PrintC(api.Constant{Value: a.Abs, Base: base, Unsigned: unsigned, Length: length})
					if s != want || e != api.OK {
						t.Errorf("PrintC: %s, error %d, not %s", s, e, want)
					}
				}
			}
		}
	}
}

// wrongConstants returns what no constant says.
func wrongConstants() []api.Constant {
	list := []api.Constant{{}, {Base: 10}, {Base: 10, Value: api.Nat{}}, {Base: 10, Unsigned: true, Length: 2}}
	for _, base := range []int{math.MinInt, -10, 0, 1, 3, 4, 7, 9, 11, 12, 15, 17, 32, 36, math.MaxInt} {
		list = append(list, api.Constant{Value: api.Nat{1}, Base: base})
	}
	for _, length := range []int{math.MinInt, -1, 3, math.MaxInt} {
		list = append(list, api.Constant{Value: api.Nat{1}, Base: 10, Length: length}, api.Constant{Base: 8, Length: length, Unsigned: true})
	}
	for _, value := range []api.Nat{{0}, {1, 0}, filled(1025, 1), make(api.Nat, 1025)} {
		for _, base := range []int{2, 8, 10, 16} {
			list = append(list, api.Constant{Value: value, Base: base})
		}
	}
	return list
}

func TestWrongConstants(t *testing.T) { // V12, V13: ErrArg, also where the value fits in no type
	large := api.Constant{Value: filled(3, 1), Base: 10, Length: 3}
	for _, c := range append(wrongConstants(), large) {
		if s, e := whole.PrintC(c); s != "" || e != api.ErrArg {
			t.Errorf("PrintC of %v: %s, error %d", c, s, e)
		}
		if kind, e := whole.TypeC(c); kind != (api.CType{}) || e != api.ErrArg {
			t.Errorf("TypeC of %v: %v, error %d", c, kind, e)
		}
	}
}

// typeTable says, for suffixes and values by their size in bits, the type in the words of C (- for none): for decimal constants, and behind the line for the others.
const typeTable = `
31 int
32 long
63 long
64 -
65 -
31 u unsigned int
32 u unsigned int
33 u unsigned long
64 u unsigned long
65 u -
1 l long
63 l long
64 l -
32 ul unsigned long
64 ul unsigned long
65 ul -
1 ll long long
63 ll long long
64 ll -
32 ull unsigned long long
64 ull unsigned long long
65 ull -
others
0 int
31 int
32 unsigned int
33 long
63 long
64 unsigned long
65 -
0 u unsigned int
32 u unsigned int
33 u unsigned long
64 u unsigned long
65 u -
0 l long
63 l long
64 l unsigned long
65 l -
31 ul unsigned long
64 ul unsigned long
65 ul -
0 ll long long
63 ll long long
64 ll unsigned long long
65 ll -
0 ull unsigned long long
64 ull unsigned long long
65 ull -
`

func TestTypeC(t *testing.T) { // V13
	bases := []int{10}
	for line := range strings.Lines(strings.TrimSpace(typeTable)) {
		line = strings.TrimSpace(line)
		if line == "others" {
			bases = []int{2, 8, 16}
			continue
		}
		size, rest, _ := strings.Cut(line, " ")
		x, _ := new(big.Int).SetString(size, 10)
		first, second, found := strings.Cut(rest, " ")
		end := ""
		if strings.Trim(first, "ul") == "" && found {
			end, rest = first, second
		}
		for _, base := range bases {
			checkTypes(t, int(x.Int64()), end, rest, base)
		}
	}
}

// checkTypes checks the type of the least and the greatest value of a size.
func checkTypes(t *testing.T, size int, end, words string, base int) {
	t.Helper()
	c := api.Constant{Base: base, Unsigned: strings.Contains(end, "u"), Length: strings.Count(end, "l")}
	want, wantError := api.CType{Length: strings.Count(words, "long"), Unsigned: strings.HasPrefix(words, "unsigned")}, api.OK
	if words == "-" {
		wantError = api.ErrRange
	}
	values := []api.Nat{nil}
	if size > 0 {
		values = []api.Nat{powerOfTwo(size - 1).Abs, near(size, -1).Abs}
	}
	for _, c.Value = range values {
		if kind, e := whole.TypeC(c); kind != want || e != wantError {
			t.Errorf("TypeC of %v: %v, error %d, not %s", c, kind, e, words)
		}
	}
}
