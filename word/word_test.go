package word_test

import (
	"math/big"
	"math/rand"
	"slices"
	"testing"

	"soroban/api"
	"soroban/word"
)

// bigWord returns a word as package big has it.
func bigWord(w word.Word) *big.Int {
	x := new(big.Int).SetUint64(w.Hi)
	return x.Or(x.Lsh(x, 64), new(big.Int).SetUint64(w.Lo))
}

// cut returns a number of package big without what does not fit in a word.
func cut(x *big.Int) *big.Int {
	return x.And(x, bigWord(word.Word{Hi: 1<<64 - 1, Lo: 1<<64 - 1}))
}

// words returns words at which something changes, and some others.
func words() []word.Word {
	list := []word.Word{{}, {Lo: 1}, {Lo: 10}, {Lo: 1<<64 - 1}, {Hi: 1}, {Hi: 1, Lo: 1}, {Hi: 1<<64 - 1}, {Hi: 1<<64 - 1, Lo: 1<<64 - 1}}
	r := rand.New(rand.NewSource(128))
	for n := range word.Size {
		list = append(list, word.Scaled(1, n), word.Word{Hi: r.Uint64(), Lo: r.Uint64()}.Down(n))
	}
	return list
}

func TestNats(t *testing.T) {
	for _, w := range words() {
		a := w.Nat()
		x := new(big.Int)
		for _, element := range slices.Backward(a) {
			x.Or(x.Lsh(x, 32), big.NewInt(int64(element)))
		}
		if x.Cmp(bigWord(w)) != 0 || len(a) > 0 && a[len(a)-1] == 0 {
			t.Errorf("Nat of %x: %x", w, a)
		}
		if got := word.Of(a); got != w {
			t.Errorf("Of of Nat of %x: %x", w, got)
		}
	}
	if a := word.Of(api.Nat{}).Nat(); a != nil {
		t.Error(a)
	}
}

func TestBits(t *testing.T) {
	for _, w := range words() {
		x := bigWord(w)
		if w.Size() != x.BitLen() || x.Sign() != 0 && w.Zeros() != int(x.TrailingZeroBits()) {
			t.Errorf("%x: %d bits, %d zeros", w, w.Size(), w.Zeros())
		}
		for n := range word.Size + 1 {
			up, down, last := w.Up(n), w.Down(n), w.Last(n)
			if bigWord(up).Cmp(cut(new(big.Int).Lsh(x, uint(n)))) != 0 {
				t.Errorf("%x up by %d: %x", w, n, up)
			}
			if bigWord(down).Cmp(new(big.Int).Rsh(x, uint(n))) != 0 {
				t.Errorf("%x down by %d: %x", w, n, down)
			}
			if again := down.Up(n).Plus(last); again != w || last.Size() > n {
				t.Errorf("the last %d bits of %x: %x", n, w, last)
			}
		}
	}
	for _, n := range []int{0, 1, 5, 1<<63 - 1} {
		for _, by := range []int{0, 1, 64, 127} {
			want := cut(new(big.Int).Lsh(big.NewInt(int64(n)), uint(by)))
			if got := word.Scaled(n, by); bigWord(got).Cmp(want) != 0 {
				t.Errorf("%d times 2^%d: %x", n, by, got)
			}
		}
	}
}

func TestSums(t *testing.T) {
	for _, w := range words() {
		for _, v := range words() {
			x, y := bigWord(w), bigWord(v)
			if got := bigWord(w.Plus(v)); got.Cmp(cut(new(big.Int).Add(x, y))) != 0 {
				t.Errorf("%x + %x: %x", w, v, got)
			}
			if w.Compare(v) != x.Cmp(y) {
				t.Errorf("Compare(%x, %x): %d", w, v, w.Compare(v))
			}
			if x.Cmp(y) < 0 {
				continue
			}
			if got := bigWord(w.Minus(v)); got.Cmp(x.Sub(x, y)) != 0 {
				t.Errorf("%x - %x: %x", w, v, got)
			}
		}
	}
}

func TestProducts(t *testing.T) {
	for _, w := range words() {
		for _, n := range []uint64{1, 2, 3, 10, 1000, 1<<32 - 1, 1 << 63, 1<<64 - 1} {
			x, y := bigWord(w), new(big.Int).SetUint64(n)
			if got := bigWord(w.Times(n)); got.Cmp(cut(new(big.Int).Mul(x, y))) != 0 {
				t.Errorf("%x times %d: %x", w, n, got)
			}
			q, rest := w.Over(n)
			x.DivMod(x, y, y)
			if bigWord(q).Cmp(x) != 0 || rest != y.Uint64() {
				t.Errorf("%x over %d: %x, %d", w, n, q, rest)
			}
		}
		if got := w.Times(0); got != (word.Word{}) {
			t.Errorf("%x times 0: %x", w, got)
		}
	}
}

func TestTens(t *testing.T) {
	power := big.NewInt(1)
	for n := range 39 {
		if got := bigWord(word.TenTo(n)); got.Cmp(power) != 0 {
			t.Errorf("10 to the power of %d: %v", n, got)
		}
		power.Mul(power, big.NewInt(10))
	}
}
