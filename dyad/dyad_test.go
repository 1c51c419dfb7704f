package dyad_test

import (
	"math"
	"math/big"
	"math/rand"
	"testing"

	"soroban/api"
	"soroban/dyad"
	"soroban/ratio"
)

func TestExamples(t *testing.T) { // the section Examples
	third := q(1, 3)
	for i, c := range []struct {
		call func() (api.Dyad, api.Errno)
		want api.Dyad
	}{
		{func() (api.Dyad, api.Errno) { return dyad.Make(n(12), 3) }, of(3, 5)},
		{func() (api.Dyad, api.Errno) { return dyad.FromRat(third, 4, api.RdDown) }, of(5, -4)},
		{func() (api.Dyad, api.Errno) { return dyad.FromRat(third, 4, api.RdUp) }, of(11, -5)},
		{func() (api.Dyad, api.Errno) { return dyad.FromRat(third, 4, api.RdEven) }, of(11, -5)},
		{func() (api.Dyad, api.Errno) { return dyad.Round(of(11, 0), 3, api.RdEven) }, of(12, 0)},
		{func() (api.Dyad, api.Errno) { return dyad.Round(of(11, 0), 3, api.RdAway) }, of(12, 0)},
		{func() (api.Dyad, api.Errno) { return dyad.Round(of(11, 0), 3, api.RdZero) }, of(10, 0)},
		{func() (api.Dyad, api.Errno) { return dyad.Round(of(-11, 0), 2, api.RdDown) }, of(-12, 0)},
		{func() (api.Dyad, api.Errno) { return dyad.Round(of(-11, 0), 2, api.RdUp) }, of(-8, 0)},
	} {
		got, e := c.call()
		if e != api.OK || !equal(got, c.want) {
			t.Errorf("example %d: %v, error %d", i, got, e)
		}
	}
	unit := between(of(1, 0), of(1, 0))
	for i, c := range []struct {
		call   func() (api.Span, api.Errno)
		lo, hi api.Dyad
		e      api.Errno
	}{
		{func() (api.Span, api.Errno) {
			return dyad.Plus(between(of(1, 0), of(2, 0)), between(of(1, -3), of(1, -2)), 2)
		}, of(1, 0), of(3, 0), api.OK},
		{func() (api.Span, api.Errno) {
			return dyad.Times(between(of(-1, 0), of(2, 0)), between(of(-3, 0), of(5, 0)), 8)
		}, of(-6, 0), of(10, 0), api.OK},
		{func() (api.Span, api.Errno) { return dyad.Over(unit, between(of(3, 0), of(3, 0)), 4) }, of(5, -4), of(11, -5), api.OK},
		{func() (api.Span, api.Errno) { return dyad.Over(unit, between(of(-1, 0), of(1, 0)), 4) }, api.Dyad{}, api.Dyad{}, api.ErrDiv},
		{func() (api.Span, api.Errno) { return dyad.Root(between(of(2, 0), of(2, 0)), 4) }, of(11, -3), of(3, -1), api.OK},
		{func() (api.Span, api.Errno) {
			return dyad.Meet(between(of(0, 0), of(1, 0)), between(of(2, 0), of(3, 0)))
		}, api.Dyad{}, api.Dyad{}, api.ErrNone},
	} {
		if got, e := c.call(); e != c.e || !equalSpans(got, api.Span{Lo: c.lo, Hi: c.hi}) {
			t.Errorf("example %d: %v, error %d", i, got, e)
		}
	}
}

func TestValid(t *testing.T) { // P4.1
	for _, d := range append(dyads(), largeDyads()...) {
		if !dyad.Valid(d) {
			t.Errorf("%v is not valid", d)
		}
	}
	for i, d := range invalid() {
		if dyad.Valid(d) {
			t.Errorf("what is not valid, %d, is valid", i)
		}
	}
	if !dyad.Valid(api.Dyad{Man: api.Int{Abs: api.Nat{}}}) {
		t.Error("0 with an empty list is not valid")
	}
}

func TestMake(t *testing.T) { // P4.1
	for man := -70; man <= 70; man++ {
		for _, exp := range []int{-9, 0, 9, api.MaxExpo - 3, api.MaxExpo, api.MaxExpo + 1, -api.MaxExpo - 3, -api.MaxExpo - 1, -api.MaxExpo} {
			got, e := dyad.Make(n(man), exp)
			same(t, "Make", got, e, binaryFraction{big.NewInt(int64(man)), exp})
		}
	}
	for _, exp := range []int{math.MinInt, math.MinInt + 1, -1 << 40, 1 << 40, math.MaxInt - 1, math.MaxInt} {
		got, e := dyad.Make(api.Int{}, exp)
		same(t, "Make of 0", got, e, binaryFraction{zero, 0})
		for _, man := range []*big.Int{one, power(1, 0), power(maxBits-1, 0), largest()} {
			got, e = dyad.Make(integer(man), exp)
			failed(t, "Make", got, e, api.ErrLimit)
		}
	}
	for _, zeros := range []int{1, 31, 32, 33, 64, 1000, maxBits - 1} { // more than the least exponent is enough then
		man := power(zeros, 0)
		for _, exp := range []int{-api.MaxExpo - zeros - 1, -api.MaxExpo - zeros, api.MaxExpo - zeros, api.MaxExpo - zeros + 1} {
			got, e := dyad.Make(integer(man), exp)
			same(t, "Make", got, e, binaryFraction{man, exp})
		}
	}
	for _, man := range []*big.Int{largest(), power(maxBits, -2), power(maxBits-1, 0), new(big.Int).Neg(power(maxBits, -1<<40))} {
		got, e := dyad.Make(integer(man), -5)
		same(t, "Make", got, e, binaryFraction{man, -5})
	}
	for _, man := range []api.Int{{Neg: true}, {Abs: api.Nat{0}}, {Abs: api.Nat{4, 0}}, integer(power(maxBits, 0))} {
		for _, exp := range []int{0, math.MaxInt} {
			got, e := dyad.Make(man, exp)
			failed(t, "Make", got, e, api.ErrArg)
		}
	}
}

func TestToRat(t *testing.T) { // P4.1
	list := append(dyads(), largeDyads()...)
	for _, exp := range []int{-2, -1, 0, 1} { // numerators and denominators of as many elements as there can be, or more
		list = append(list, of(1, maxBits+exp), of(3, maxBits+exp-2), of(-1, -maxBits-exp), long(power(1000, 1), maxBits-1000+exp), long(largest(), -maxBits-exp), long(largest(), exp))
	}
	for _, d := range list {
		got, e := dyad.ToRat(d)
		x := oracle(d)
		if x.man.BitLen()+x.exp > maxBits || x.exp <= -maxBits {
			if e != api.ErrLimit || got.Num.Neg || len(got.Num.Abs) > 0 || len(got.Den) > 0 {
				t.Fatalf("ToRat of %v: error %d", d, e)
			}
			continue
		}
		want := x.rational()
		if e != api.OK || !equalInts(got.Num, integer(want.Num())) || bigNat(got.Den).Cmp(want.Denom()) != 0 || !ratio.Valid(got) {
			t.Fatalf("ToRat of %v: %v, error %d", d, got, e)
		}
	}
}

// sizes returns numbers of bits.
func sizes() []int { return []int{1, 2, 3, 4, 24, 31, 32, 33, 53, 63, 64, 65, 127, 128, 129} }

func TestFromRat(t *testing.T) { // P4.2
	check := func(num, den *big.Int, bits int) {
		t.Helper()
		for _, dir := range directions() {
			got, e := dyad.FromRat(quotient(num, den), bits, dir)
			same(t, "FromRat", got, e, rounded(num, den, 0, bits, dir))
		}
	}
	for num := -40; num <= 40; num++ {
		for den := 1; den <= 24; den++ {
			for bits := 1; bits <= 6; bits++ {
				check(big.NewInt(int64(num)), big.NewInt(int64(den)), bits)
			}
		}
	}
	r := rand.New(rand.NewSource(5))
	for range 300 {
		num, den := natural(r, 1+r.Intn(9)), natural(r, 1+r.Intn(9))
		den.Add(den, one)
		if r.Intn(2) == 0 {
			num.Neg(num)
		}
		for _, bits := range sizes() {
			check(num, den, bits)
		}
	}
	for _, x := range []*big.Int{one, power(64, 1), power(4096, -1), power(20000, 1), power(maxBits-1, 0), largest()} {
		for _, y := range []*big.Int{one, power(64, -1), power(4096, 1), power(20000, -1), power(maxBits-1, 0), power(maxBits, -2)} {
			for _, bits := range []int{1, 64, 4095, 4096} {
				check(x, y, bits)
			}
		}
	}
}

func TestTies(t *testing.T) { // P4.2: numbers in the middle between two multiples, and next to it
	for bits := 1; bits <= 70; bits++ {
		for _, last := range []int{-1, 0, 1, 2} {
			unit := power(bits, last) // bits or bits + 1 digits
			for _, more := range []struct {
				man *big.Int
				exp int
			}{{one, -1}, {power(80, -1), -81}, {power(80, 1), -81}, {one, -200}, {power(200, -1), -200}} {
				x := binaryFraction{unit, 0}.plus(binaryFraction{more.man, more.exp})
				for _, y := range []binaryFraction{x, x.opposite()} {
					for _, dir := range directions() {
						got, e := dyad.Round(y.own(), bits, dir)
						same(t, "Round", got, e, y.rounded(bits, dir))
						d, _ := dyad.ToRat(y.own())
						got, e = dyad.FromRat(d, bits, dir)
						same(t, "FromRat", got, e, y.rounded(bits, dir))
					}
				}
			}
		}
	}
}

func TestRound(t *testing.T) { // P4.2
	for _, d := range dyads() {
		for _, bits := range sizes() {
			for _, dir := range directions() {
				got, e := dyad.Round(d, bits, dir)
				same(t, "Round", got, e, oracle(d).rounded(bits, dir))
			}
		}
	}
	for _, d := range largeDyads() { // what is rounded may have a larger exponent than there is
		for _, bits := range []int{1, 64, 4095, 4096} {
			for _, dir := range directions() {
				got, e := dyad.Round(d, bits, dir)
				same(t, "Round", got, e, oracle(d).rounded(bits, dir))
			}
		}
	}
	got, e := dyad.Round(of(3, api.MaxExpo), 1, api.RdZero)
	failed(t, "Round", got, e, api.ErrLimit)
	got, e = dyad.Round(long(power(maxBits-4096, 1), -api.MaxExpo), 4096, api.RdUp)
	if e != api.OK {
		t.Error(got.Exp, e)
	}
}

func TestCmp(t *testing.T) { // P4.3
	list := append(dyads(), largeDyads()[:40]...)
	for _, a := range list {
		for _, b := range list {
			if got, want := order(t, a, b), oracle(a).cmp(oracle(b)); got != want {
				t.Fatalf("Cmp of %v and %v: %d", a, b, got)
			}
		}
	}
	big := largeDyads()
	for i, a := range big {
		for _, k := range []int{i, (i + 1) % len(big), (i + 14) % len(big), (i * 5) % len(big)} {
			if got, want := order(t, a, big[k]), oracle(a).cmp(oracle(big[k])); got != want {
				t.Fatalf("Cmp of large dyads %d and %d: %d", i, k, got)
			}
		}
	}
}

func TestCmpRat(t *testing.T) { // P4.3
	check := func(a api.Dyad, num, den *big.Int) {
		t.Helper()
		x := oracle(a)
		want := x.times(binaryFraction{den, 0}).cmp(binaryFraction{num, 0})
		if got, e := dyad.CmpRat(a, quotient(num, den)); got != want || e != api.OK {
			t.Fatalf("CmpRat of %v and %v / %v: %d, error %d", a, num, den, got, e)
		}
	}
	for _, a := range dyads() {
		for num := -9; num <= 9; num++ {
			check(a, big.NewInt(int64(num)), big.NewInt(7))
			check(a, big.NewInt(int64(num)), big.NewInt(8))
		}
		x := oracle(a).rational()
		for _, den := range []*big.Int{one, power(64, 1), power(100, -3)} {
			num := new(big.Int).Mul(x.Num(), den)
			for _, more := range []int64{-1, 0, 1} { // next to the number
				check(a, new(big.Int).Add(num, big.NewInt(more)), new(big.Int).Mul(x.Denom(), den))
			}
		}
	}
	for _, a := range largeDyads() {
		check(a, one, largest())
		check(a, largest(), one)
		check(a, new(big.Int).Neg(largest()), power(maxBits, -2))
		check(a, zero, one)
	}
}

func TestTop(t *testing.T) { // P4.3
	for _, d := range append(dyads(), largeDyads()...) {
		got, e := dyad.Top(d)
		if len(d.Man.Abs) == 0 {
			if got != 0 || e != api.ErrNone {
				t.Errorf("Top of 0: %d, error %d", got, e)
			}
			continue
		}
		magnitude := oracle(d)
		magnitude.man.Abs(magnitude.man)
		if e != api.OK || magnitude.cmp(binaryFraction{one, got}) < 0 || magnitude.cmp(binaryFraction{one, got + 1}) >= 0 {
			t.Errorf("Top of %v: %d, error %d", d, got, e)
		}
	}
	for _, c := range []struct{ man, exp, want int }{{11, 0, 3}, {3, -3, -2}, {-1, api.MaxExpo, api.MaxExpo}, {1, -api.MaxExpo, -api.MaxExpo}} {
		if got, e := dyad.Top(of(c.man, c.exp)); got != c.want || e != api.OK {
			t.Error(c, got, e)
		}
	}
}

func TestFloor(t *testing.T) { // P4.3
	list := append(dyads(), largeDyads()...)
	for i := -20; i <= 20; i++ {
		list = append(list, of(i, 0), of(i, -1), of(i, -2), of(i, -5))
	}
	list = append(list, of(1, maxBits-1), of(1, maxBits), of(-1, maxBits-1), of(-1, maxBits), of(3, maxBits-2), of(3, maxBits-1))
	for _, d := range list {
		x := oracle(d)
		got, e := dyad.Floor(d)
		if x.man.BitLen()+x.exp > maxBits {
			if e != api.ErrLimit || got.Neg || len(got.Abs) > 0 {
				t.Fatalf("Floor of a large dyad: error %d", e)
			}
			continue
		}
		want := new(big.Int).Lsh(x.man, uint(max(x.exp, 0)))
		want.Rsh(want, uint(max(-x.exp, 0))) // it rounds down
		if e != api.OK || !equalInts(got, integer(want)) {
			t.Fatalf("Floor of %v: %v, error %d", d, got, e)
		}
	}
	if got, e := dyad.Floor(of(-3, -1)); e != api.OK || !equalInts(got, n(-2)) {
		t.Errorf("Floor of -3/2: %v, error %d", got, e)
	}
}

// checkPair checks the operations on two dyads.
func checkPair(t *testing.T, a, b api.Dyad) {
	t.Helper()
	x, y := oracle(a), oracle(b)
	got, e := dyad.Add(a, b)
	same(t, "Add", got, e, x.plus(y))
	got, e = dyad.Sub(a, b)
	same(t, "Sub", got, e, x.minus(y))
	got, e = dyad.Mul(a, b)
	same(t, "Mul", got, e, x.times(y))
}

func TestOperations(t *testing.T) { // P4.4
	list := dyads()
	for i, a := range list {
		got, e := dyad.Neg(a)
		same(t, "Neg", got, e, oracle(a).opposite())
		for j, b := range list {
			if (i+j)%3 == 0 || i == j {
				checkPair(t, a, b)
			}
		}
	}
	r := rand.New(rand.NewSource(6))
	for range 500 {
		checkPair(t, some(r, 12, 400), some(r, 12, 400))
	}
}

func TestOperationsOnLarge(t *testing.T) { // P4.4
	list := largeDyads()
	for i, a := range list {
		got, e := dyad.Neg(a)
		same(t, "Neg", got, e, oracle(a).opposite())
		for _, k := range []int{0, 1, i, (i + 1) % len(list), (i + 2) % len(list), (i + 3) % len(list), (i*7 + 3) % len(list)} {
			checkPair(t, a, list[k])
			checkPair(t, list[k], a)
		}
	}
	for _, exp := range []int{0, -api.MaxExpo, api.MaxExpo - 1} { // even sums, which are longer than what becomes of them
		checkPair(t, long(largest(), exp), long(largest(), exp))
		checkPair(t, long(largest(), exp), long(power(maxBits, -3), exp))
		checkPair(t, long(largest(), exp), long(power(maxBits-1, 1), exp))
	}
	checkPair(t, long(largest(), api.MaxExpo), long(largest(), api.MaxExpo))
	checkPair(t, of(1, api.MaxExpo), of(1, api.MaxExpo))
	for _, far := range []int{maxBits - 1, maxBits, maxBits + 1} { // what is aligned is too long, but the difference is not
		for _, low := range []*big.Int{one, largest(), power(maxBits, -3)} {
			checkPair(t, of(1, far), long(low, 0))
			checkPair(t, of(-1, far), long(low, 0))
		}
	}
	for _, half := range []int{maxBits / 2, maxBits/2 - 1} {
		checkPair(t, long(power(half, 1), 9), long(power(half, -1), -9))
		checkPair(t, long(power(half, 1), 9), long(power(half, 1), -9))
	}
	for _, c := range [][2]int{{1 << 19, 1 << 19}, {1 << 19, 1<<19 + 1}, {-1 << 19, -1 << 19}, {-1 << 19, -1<<19 - 1}, {api.MaxExpo, api.MaxExpo}, {-api.MaxExpo, -api.MaxExpo}} {
		checkPair(t, of(3, c[0]), of(-5, c[1]))
	}
}

func TestShift(t *testing.T) { // P4.4
	for _, d := range append(few(), largeDyads()...) {
		for _, by := range []int{0, 1, -1, 63, -64, 1000, -1000, api.MaxExpo, -api.MaxExpo, api.MaxExpo + 1, 2 * api.MaxExpo, -2 * api.MaxExpo, -2*api.MaxExpo - 1} {
			got, e := dyad.Shift(d, by)
			same(t, "Shift", got, e, oracle(d).shifted(by))
		}
		for _, by := range []int{math.MinInt, -1 << 62, 1 << 40, math.MaxInt - api.MaxExpo, math.MaxInt} {
			got, e := dyad.Shift(d, by)
			if len(d.Man.Abs) == 0 {
				same(t, "Shift of 0", got, e, binaryFraction{zero, 0})
			} else {
				failed(t, "Shift", got, e, api.ErrLimit)
			}
		}
	}
}
