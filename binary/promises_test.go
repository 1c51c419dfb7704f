package binary_test

import (
	"math/big"
	"slices"
	"testing"

	"soroban/api"
	"soroban/binary"
)

func TestBitsAndData(t *testing.T) { // P5.7
	for _, x := range forms() {
		for _, r := range x.raws() {
			d := mustDecode(t, x.f, r)
			if e := binary.Check(d); e != api.OK || d.Fmt != x.f {
				t.Fatalf("Decode of %x: %v, which is not valid", r, d)
			}
			again := sure[api.Raw](t, "Encode")(binary.Encode(d))
			is, e := binary.Canonical(x.f, r)
			if is != (again == r) || e != api.OK || !is && !x.integer {
				t.Fatalf("%x: %v, whose bits are %x; canonical: %v", r, d, again, is)
			}
			if !binary.Same(mustDecode(t, x.f, again), d) {
				t.Fatalf("%x: not the bits of %v", again, d)
			}
		}
		for _, d := range x.data() {
			r := sure[api.Raw](t, "Encode")(binary.Encode(d))
			if !binary.Same(mustDecode(t, x.f, r), d) {
				t.Fatalf("%x: not the bits of %v", r, d)
			}
			if is, e := binary.Canonical(x.f, r); !is || e != api.OK {
				t.Fatalf("the bits of %v are not canonical", d)
			}
		}
	}
}

// extent returns a number that orders data which are no NaNs as their values, with the infinities at the ends.
func (x form) extent(d api.Datum) *big.Int {
	if d.Class == api.ClInf {
		d = x.finite(d.Neg, power(x.p+1, 0), x.high)
	}
	return x.value(d)
}

// index returns the place of a datum.
func index(t *testing.T, d api.Datum) *big.Int {
	t.Helper()
	return bigInt(sure[api.Int](t, "Index")(binary.Index(d)))
}

// at returns the datum with a place.
func (x form) at(t *testing.T, place *big.Int) api.Datum {
	t.Helper()
	return sure[api.Datum](t, "At")(binary.At(x.f, integer(place)))
}

func TestOrder(t *testing.T) { // P5.8
	for _, x := range forms() {
		list := x.ordered()
		if x.f == api.FmQuad || x.f == api.FmExtended { // their values have many digits
			list = list[len(list)/3 : len(list)*3/4]
		}
		for _, a := range list {
			for _, b := range list {
				if index(t, a).Cmp(index(t, b)) != x.extent(a).Cmp(x.extent(b)) {
					t.Fatalf("the places of %v and %v have another order than their values", a, b)
				}
			}
		}
		for _, d := range x.ordered() {
			again := x.at(t, index(t, d))
			isMinusZero := d.Neg && d.Class == api.ClFinite && len(d.Coef) == 0
			if binary.Same(again, d) == isMinusZero {
				t.Fatalf("At of Index of %v: %v", d, again)
			}
		}
	}
}

func TestAllPlaces(t *testing.T) { // P5.8: all integers between the infinities are places, and no others
	half := forms()[0]
	var last *big.Int
	for i := int64(-31744); i <= 31744; i++ {
		place := big.NewInt(i)
		d := half.at(t, place)
		if binary.Check(d) != api.OK || index(t, d).Cmp(place) != 0 {
			t.Fatalf("At of %d: %v, with another place", i, d)
		}
		extent := half.extent(d)
		if last != nil && last.Cmp(extent) >= 0 {
			t.Fatalf("At of %d: %v, which is not above the one before", i, d)
		}
		last = extent
	}
	for _, x := range forms() {
		end := x.infinity()
		beyond := new(big.Int).Add(end, power(0, 0))
		for _, neg := range []bool{false, true} {
			checkEqual(t, "At", x.at(t, end), api.OK, x.special(api.ClInf, neg, new(big.Int)))
			d, e := binary.At(x.f, integer(beyond))
			checkFailed(t, "At", d, e, api.ErrRange)
			end, beyond = end.Neg(end), beyond.Neg(beyond)
		}
		greatest := sure[api.Datum](t, "Greatest")(binary.Greatest(x.f))
		if end.Sub(end, index(t, greatest)).Cmp(power(0, 0)) != 0 {
			t.Errorf("format %d: the infinity is not next to the greatest number", x.f)
		}
	}
}

// checkNeighbours checks that the values of two data are next to each other.
func (x form) checkNeighbours(t *testing.T, place *big.Int) {
	t.Helper()
	a, b := x.at(t, place), x.at(t, new(big.Int).Add(place, power(0, 0)))
	if a.Class != api.ClFinite || b.Class != api.ClFinite {
		return
	}
	nearer := b
	if place.Sign() >= 0 {
		nearer = a
	}
	step := new(big.Int).Sub(x.value(b), x.value(a))
	if step.Cmp(power(nearer.Exp-x.low, 0)) != 0 {
		t.Fatalf("the difference of %v and %v is another power of 2", a, b)
	}
}

func TestNeighbours(t *testing.T) { // P5.9
	half := forms()[0]
	for i := int64(-31744); i < 31744; i++ {
		half.checkNeighbours(t, big.NewInt(i))
	}
	for _, x := range forms() {
		for _, d := range x.numbers(false) {
			for more := int64(-2); more <= 2; more++ {
				place := new(big.Int).Add(index(t, d), big.NewInt(more))
				if place.CmpAbs(x.infinity()) < 0 {
					x.checkNeighbours(t, place)
					x.checkNeighbours(t, place.Sub(place.Neg(place), power(0, 0)))
				}
			}
		}
	}
	var values []*big.Int // those of all halves: none lies between two with places next to each other
	for _, r := range half.raws() {
		if d := mustDecode(t, api.FmHalf, r); d.Class == api.ClFinite {
			values = append(values, half.value(d))
		}
	}
	slices.SortFunc(values, (*big.Int).Cmp)
	values = slices.CompactFunc(values, func(a, b *big.Int) bool { return a.Cmp(b) == 0 })
	for i, v := range values {
		if d := half.at(t, big.NewInt(int64(i-31743))); v.Cmp(half.value(d)) != 0 {
			t.Fatalf("value %d of all halves is not that of %v", i, d)
		}
	}
	if len(values) != 2*31743+1 {
		t.Errorf("there are %d values", len(values))
	}
}

func TestBitsInOrder(t *testing.T) { // P5.10
	for _, x := range forms() {
		if x.integer {
			continue
		}
		for _, r := range x.raws() {
			d := mustDecode(t, x.f, r)
			if d.Neg || d.Class > api.ClInf {
				continue
			}
			if index(t, d).Cmp(bigRaw(r)) != 0 {
				t.Fatalf("the bits %x are not the place of %v", r, d)
			}
			got, e := binary.Encode(x.at(t, bigRaw(r)))
			if got != r || e != api.OK {
				t.Fatalf("the place %x has the bits %x, error %d", r, got, e)
			}
		}
	}
}

func TestMakePromise(t *testing.T) { // P5.11
	for _, x := range forms() {
		for _, neg := range []bool{false, true} {
			for _, d := range x.numbers(neg) {
				got, e := binary.Make(x.f, neg, d.Coef, d.Exp)
				checkEqual(t, "Make", got, e, d)
				v := sure[api.Dyad](t, "Value")(binary.Value(d))
				got, e = binary.Make(x.f, neg, v.Man.Abs, v.Exp)
				checkEqual(t, "Make of Value", got, e, d)
				for _, zeros := range []int{1, 2, 31, 32, 33, 64, 100, 5000, 30000} {
					long := natural(new(big.Int).Lsh(oracle(d.Coef), uint(zeros)))
					got, e = binary.Make(x.f, neg, long, d.Exp-zeros)
					checkEqual(t, "Make with zeros", got, e, d)
				}
			}
		}
		for _, coef := range []*big.Int{power(x.p, 1), power(x.p+40, -1)} { // where there is none, there is none with zeros
			for _, exp := range []int{x.low - 2, 0, x.high, x.emax} {
				for _, zeros := range []int{0, 1, 32, 77} {
					long := natural(new(big.Int).Lsh(coef, uint(zeros)))
					got, e := binary.Make(x.f, false, long, exp-zeros)
					checkFailed(t, "Make with zeros", got, e, api.ErrRange)
				}
			}
		}
	}
}

func TestSpecialPromise(t *testing.T) { // P5.12
	half := forms()[0]
	seen := map[api.Raw]bool{}
	for _, neg := range []bool{false, true} {
		count := 0
		for payload := range int64(1 << 12) {
			for _, class := range []int{api.ClQuiet, api.ClSignal} {
				d, e := binary.Special(api.FmHalf, class, neg, natural(big.NewInt(payload)))
				if e != api.OK {
					checkFailed(t, "Special", d, e, api.ErrArg)
					continue
				}
				count++
				seen[sure[api.Raw](t, "Encode")(binary.Encode(d))] = true
			}
		}
		if count != 1<<(half.p-1)-1 {
			t.Errorf("there are %d NaNs, negative: %v", count, neg)
		}
	}
	if len(seen) != 2*(1<<(half.p-1)-1) {
		t.Errorf("they have %d different bits", len(seen))
	}
	for _, x := range forms() { // the bits of NaNs are those of the payloads from 0 on (from 1 on, if they signal), one behind the other
		seen := map[api.Raw]bool{}
		for _, neg := range []bool{false, true} {
			for _, d := range x.nans(neg) {
				seen[sure[api.Raw](t, "Encode")(binary.Encode(d))] = true
			}
			last := sure[api.Datum](t, "Special")(binary.Special(x.f, api.ClQuiet, neg, natural(power(x.p-2, -1))))
			first := sure[api.Datum](t, "Special")(binary.Special(x.f, api.ClSignal, neg, api.Nat{1}))
			count := bigRaw(sure[api.Raw](t, "Encode")(binary.Encode(last)))
			count.Sub(count, bigRaw(sure[api.Raw](t, "Encode")(binary.Encode(first))))
			if count.Cmp(power(x.p-1, -2)) != 0 {
				t.Errorf("format %d: there are %v NaNs behind the first one", x.f, count)
			}
		}
		var different []api.Datum
		for _, d := range append(x.nans(false), x.nans(true)...) {
			if !slices.ContainsFunc(different, func(c api.Datum) bool { return binary.Same(c, d) }) {
				different = append(different, d)
			}
		}
		if len(seen) != len(different) {
			t.Errorf("format %d: %d NaNs have %d different bits", x.f, len(different), len(seen))
		}
	}
}
