package dyad_test

import (
	"math/big"
	"math/rand"
	"testing"

	"soroban/api"
	"soroban/dyad"
)

func TestProper(t *testing.T) { // P4.5
	list := append(smallSpans(), spans(largeDyads()[:30])...)
	for _, s := range append(list, api.Span{}) {
		if !dyad.Proper(s) {
			t.Errorf("%v is not proper", s)
		}
		if back := (api.Span{Lo: s.Hi, Hi: s.Lo}); dyad.Proper(back) != equal(s.Lo, s.Hi) {
			t.Errorf("%v: Proper is wrong", back)
		}
	}
	for i, s := range improper() {
		if dyad.Proper(s) {
			t.Errorf("what is not proper, %d, is proper", i)
		}
	}
}

func TestAround(t *testing.T) { // P4.5
	check := func(num, den *big.Int, bits int) {
		t.Helper()
		got, e := dyad.Around(quotient(num, den), bits)
		sameSpan(t, "Around", got, e, rounded(num, den, 0, bits, api.RdDown), rounded(num, den, 0, bits, api.RdUp))
	}
	for num := -40; num <= 40; num++ {
		for den := 1; den <= 20; den++ {
			for bits := 1; bits <= 5; bits++ {
				check(big.NewInt(int64(num)), big.NewInt(int64(den)), bits)
			}
		}
	}
	for _, num := range []*big.Int{one, new(big.Int).Neg(power(100, 1)), largest()} {
		for _, den := range []*big.Int{one, power(100, -1), power(maxBits, -2)} {
			for _, bits := range []int{1, 99, 100, 101, 4096} {
				check(num, den, bits)
			}
		}
	}
}

// limitSpans returns spans with ends near the limits.
func limitSpans() []api.Span {
	list := []api.Span{
		between(of(1, api.MaxExpo), of(3, api.MaxExpo)),
		between(of(1, -api.MaxExpo), of(3, -api.MaxExpo)),
		between(of(-3, api.MaxExpo), of(3, -api.MaxExpo)),
		between(of(-1, -api.MaxExpo), of(1, api.MaxExpo)),
		between(long(largest(), 0), long(largest(), 1)),
		between(long(largest(), -api.MaxExpo), long(largest(), -api.MaxExpo)),
		between(long(power(maxBits, -3), api.MaxExpo-maxBits), long(largest(), api.MaxExpo-maxBits)),
		between(minus(long(largest(), api.MaxExpo)), minus(long(power(maxBits-1, 1), -7))),
		between(of(-1, 0), of(1, -api.MaxExpo)),
		between(of(-5, 0), of(-3, 0)),
		between(long(power(1000, 1), -api.MaxExpo), long(power(1000, 1), -api.MaxExpo)),
		between(long(power(1000, 1), -500), long(power(1000, 1), -499)),
		{},
	}
	return list
}

func TestOutward(t *testing.T) { // P4.5
	for i, s := range append(append(smallSpans(), spans(few())...), limitSpans()...) {
		for _, bits := range []int{1, 2, 3, 5, 31, 64, 100, 4096} {
			got, e := dyad.Outward(s, bits)
			sameSpan(t, "Outward", got, e, oracle(s.Lo).rounded(bits, api.RdDown), oracle(s.Hi).rounded(bits, api.RdUp))
			if e == api.ErrLimit && i < len(smallSpans()) {
				t.Fatal("this is no test")
			}
		}
	}
}

// corner returns the least, or the greatest, of the four results of an operation on ends of two spans.
func corner(a, b api.Span, direction int, operation func(x, y binaryFraction) binaryFraction) binaryFraction {
	var result binaryFraction
	for i, pair := range [][2]api.Dyad{{a.Lo, b.Lo}, {a.Lo, b.Hi}, {a.Hi, b.Lo}, {a.Hi, b.Hi}} {
		x := operation(oracle(pair[0]), oracle(pair[1]))
		if i == 0 || x.cmp(result) < 0 == (direction == api.RdDown) {
			result = x
		}
	}
	return result
}

// checkSpans checks the operations on two spans. What is rounded does not change its order, so it may be rounded ahead of the least and the greatest one.
func checkSpans(t *testing.T, a, b api.Span, bits int) {
	t.Helper()
	operation := func(exact func(x, y binaryFraction) binaryFraction, direction int) binaryFraction {
		return corner(a, b, direction, exact).rounded(bits, direction)
	}
	got, e := dyad.Plus(a, b, bits)
	sameSpan(t, "Plus", got, e, operation(binaryFraction.plus, api.RdDown), operation(binaryFraction.plus, api.RdUp))
	got, e = dyad.Minus(a, b, bits)
	sameSpan(t, "Minus", got, e, operation(binaryFraction.minus, api.RdDown), operation(binaryFraction.minus, api.RdUp))
	got, e = dyad.Times(a, b, bits)
	sameSpan(t, "Times", got, e, operation(binaryFraction.times, api.RdDown), operation(binaryFraction.times, api.RdUp))
	checkOver(t, a, b, bits)
}

// checkOver checks a quotient of two spans.
func checkOver(t *testing.T, a, b api.Span, bits int) {
	t.Helper()
	got, e := dyad.Over(a, b, bits)
	if bigInt(b.Lo.Man).Sign() <= 0 && bigInt(b.Hi.Man).Sign() >= 0 {
		failedSpan(t, "Over", got, e, api.ErrDiv)
		return
	}
	end := func(direction int) binaryFraction {
		return corner(a, b, direction, func(x, y binaryFraction) binaryFraction { return x.over(y, bits, direction) })
	}
	sameSpan(t, "Over", got, e, end(api.RdDown), end(api.RdUp))
}

// checkRoot checks the square root of a span.
func checkRoot(t *testing.T, a api.Span, bits int) {
	t.Helper()
	got, e := dyad.Root(a, bits)
	if a.Lo.Man.Neg {
		failedSpan(t, "Root", got, e, api.ErrRange)
		return
	}
	sameSpan(t, "Root", got, e, oracle(a.Lo).root(bits, api.RdDown), oracle(a.Hi).root(bits, api.RdUp))
}

func TestSpans(t *testing.T) { // P4.6
	list := smallSpans()
	for i, a := range list {
		for k, b := range list {
			for _, bits := range []int{1, 2, 3, 4, 5, 8, 64} {
				if (i+k+bits)%5 == 0 {
					checkSpans(t, a, b, bits)
				}
			}
		}
	}
	r := rand.New(rand.NewSource(7))
	for range 1500 {
		a, b := someSpan(r, 6, 200), someSpan(r, 6, 200)
		checkSpans(t, a, b, 1+r.Intn(150))
	}
	for range 30 {
		a, b := someSpan(r, 200, 3000), someSpan(r, 200, 3000)
		checkSpans(t, a, b, api.MaxBits-r.Intn(40))
	}
}

func TestRoot(t *testing.T) { // P4.6
	for _, a := range append(append(smallSpans(), spans(few())...), limitSpans()...) {
		for _, bits := range []int{1, 2, 3, 4, 31, 64, 100, 4095, 4096} {
			checkRoot(t, a, bits)
		}
	}
	for i := range 200 { // squares, and their neighbours
		for exp := -3; exp <= 3; exp++ {
			for _, more := range []int{-1, 0, 1} {
				a := of(max(i*i+more, 0), exp)
				for _, bits := range []int{1, 3, 7, 8, 20} {
					checkRoot(t, between(a, a), bits)
				}
			}
		}
	}
	r := rand.New(rand.NewSource(8))
	for range 300 {
		x := natural(r, 1+r.Intn(20))
		square := binaryFraction{new(big.Int).Mul(x, x), r.Intn(60) - 30}
		next := square.plus(binaryFraction{one, square.exp - r.Intn(300)})
		for _, bits := range []int{x.BitLen() - 1, x.BitLen(), x.BitLen() + 1, 2 * x.BitLen()} {
			if bits > 0 {
				checkRoot(t, between(square.own(), next.own()), bits)
			}
		}
	}
}

func TestLimitsOfSpans(t *testing.T) { // P4.6: only the ends that are returned have limits
	for _, a := range limitSpans() {
		for _, b := range limitSpans() {
			for _, bits := range []int{2, 4096} {
				checkSpans(t, a, b, bits)
			}
		}
	}
	tiny, small := of(1, -api.MaxExpo), between(long(power(1000, 1), -500), long(power(1000, 1), -500))
	s, e := dyad.Times(between(of(-1, 0), tiny), between(of(-1, 0), tiny), 9) // the square of tiny is no dyad, and no end
	sameSpan(t, "Times", s, e, binaryFraction{big.NewInt(-1), -api.MaxExpo}, binaryFraction{one, 0})
	s, e = dyad.Times(between(tiny, tiny), between(tiny, of(1, 0)), 9)
	failedSpan(t, "Times", s, e, api.ErrLimit)
	x := between(long(power(1000, 1), -api.MaxExpo), long(power(1000, 1), -api.MaxExpo))
	s, e = dyad.Times(x, small, 10) // the exact product is no dyad, but the ends are
	sameSpan(t, "Times", s, e, binaryFraction{one, 1500 - api.MaxExpo}, binaryFraction{power(9, 1), 1491 - api.MaxExpo})
	s, e = dyad.Plus(between(tiny, tiny), between(of(1, api.MaxExpo), of(1, api.MaxExpo)), 3)
	sameSpan(t, "Plus", s, e, binaryFraction{one, api.MaxExpo}, binaryFraction{one, api.MaxExpo}.plus(binaryFraction{one, api.MaxExpo - 2}))
	s, e = dyad.Over(between(tiny, tiny), between(of(3, 0), of(3, 0)), 3)
	failedSpan(t, "Over", s, e, api.ErrLimit)
	s, e = dyad.Over(between(tiny, tiny), between(tiny, tiny), 3)
	sameSpan(t, "Over", s, e, binaryFraction{one, 0}, binaryFraction{one, 0})
}

func TestHullAndMeet(t *testing.T) { // P4.7
	list := append(smallSpans(), limitSpans()...)
	for i, a := range list {
		for k, b := range list {
			if (i+k)%4 != 0 {
				continue
			}
			lo, hi := oracle(a.Lo), oracle(a.Hi)
			least, greatest := oracle(b.Lo), oracle(b.Hi)
			if least.cmp(lo) > 0 {
				lo, least = least, lo
			}
			if greatest.cmp(hi) < 0 {
				hi, greatest = greatest, hi
			}
			got, e := dyad.Hull(a, b)
			sameSpan(t, "Hull", got, e, least, greatest)
			got, e = dyad.Meet(a, b)
			if lo.cmp(hi) > 0 {
				failedSpan(t, "Meet", got, e, api.ErrNone)
			} else {
				sameSpan(t, "Meet", got, e, lo, hi)
			}
		}
	}
}

func TestHas(t *testing.T) { // P4.8
	list := smallSpans()
	for _, s := range list {
		for num := -60; num <= 60; num++ {
			for _, den := range []int{1, 3, 7, 8} {
				x := big.NewRat(int64(num), int64(den))
				want := oracle(s.Lo).rational().Cmp(x) <= 0 && x.Cmp(oracle(s.Hi).rational()) <= 0
				if got, e := dyad.Has(s, q(num, den)); got != want || e != api.OK {
					t.Fatalf("Has of %v and %v: %v, error %d", s, x, got, e)
				}
			}
		}
	}
	x, den := binaryFraction{one, 0}, binaryFraction{largest(), 0}
	for i, s := range limitSpans() {
		want := oracle(s.Lo).times(den).cmp(x) <= 0 && oracle(s.Hi).times(den).cmp(x) >= 0
		if got, e := dyad.Has(s, quotient(one, largest())); got != want || e != api.OK {
			t.Errorf("Has of %d: %v, error %d", i, got, e)
		}
	}
}

func TestWidth(t *testing.T) { // P4.8
	for _, s := range append(append(smallSpans(), spans(few())...), limitSpans()...) {
		got, e := dyad.Width(s)
		same(t, "Width", got, e, oracle(s.Hi).minus(oracle(s.Lo)))
	}
	got, e := dyad.Width(between(of(1, -maxBits), of(1, 0)))
	same(t, "Width", got, e, binaryFraction{power(maxBits, -1), -maxBits})
	got, e = dyad.Width(between(of(1, -maxBits-1), of(1, 0)))
	failed(t, "Width", got, e, api.ErrLimit)
}

func TestSide(t *testing.T) { // P4.8
	for _, s := range append(append(smallSpans(), spans(few())...), limitSpans()...) {
		want := 0
		switch {
		case bigInt(s.Lo.Man).Sign() > 0:
			want = 1
		case bigInt(s.Hi.Man).Sign() < 0:
			want = -1
		}
		if got, e := dyad.Side(s); got != want || e != api.OK {
			t.Errorf("Side of %v: %d, error %d", s, got, e)
		}
	}
}
