package ratio

import (
	"cmp"
	"iter"

	"soroban/api"
	"soroban/guard"
	"soroban/nat"
	"soroban/whole"
	"soroban/wide"
)

// terms yields the terms of the continued fraction of a number, each with the rest that Euclid's algorithm leaves behind it.
func (a number) terms() iter.Seq2[api.Int, api.Nat] {
	return func(yield func(api.Int, api.Nat) bool) {
		first, left := guard.FoundTwo(whole.Div(a.Num, api.Int{Abs: a.Den}, api.DvDown))
		divisor, rest := a.Den, left.Abs
		if !yield(first, rest) {
			return
		}
		for len(rest) > 0 {
			q, r := guard.FoundTwo(nat.Div(divisor, rest))
			divisor, rest = rest, r
			if !yield(api.Int{Abs: q}, rest) {
				return
			}
		}
	}
}

// areTerms reports whether there is a number with these terms.
func areTerms(l []api.Int) bool {
	for i, term := range l {
		if !whole.Valid(term) || i > 0 && (term.Neg || len(term.Abs) == 0) {
			return false
		}
	}
	return len(l) > 0 && len(l) <= api.MaxText
}

// chain is some terms: the number that they have, and that of all of them but the last one. (Without terms it is 1/0, and what is ahead of it 0/1.)
type chain struct {
	last, now number
}

func emptyChain() chain {
	return chain{last: fromInt(api.Int{}), now: number{whole.FromInt(1), nil}}
}

// with returns a chain with one term more, which is not negative if it is not the first one.
func (c chain) with(term api.Int) chain {
	if len(c.now.Den) == 0 {
		return chain{c.now, fromInt(term)}
	}
	return chain{c.now, number{
		timesAndMore(term, c.now.Num, c.last.Num),
		sum(product(term.Abs, c.now.Den), c.last.Den),
	}}
}

// timesAndMore returns t a + b. What it adds has one sign in a chain, where b may be 1 and a negative: so nothing on the way is too large unless the result is.
func timesAndMore(t, a, b api.Int) api.Int {
	one := whole.FromInt(1)
	less := guard.Found(whole.Mul(guard.Found(whole.Sub(t, one)), a))
	return guard.Found(whole.Add(less, guard.Found(whole.Add(a, b))))
}

// near returns the nearest number with a denominator that is not above a bound, which is above 0. If a itself has a greater one, a lies between the last of its beginnings that has not, and what becomes of this one if only a part of the next term is taken, as much as the bound allows; no other such number lies between these two.
func (a number) near(most api.Nat) number {
	c := emptyChain()
	var last api.Nat // what the two numbers of the chain miss a by, times the denominators: the rests
	now := a.Den
	for term, rest := range a.terms() {
		next := c.with(term)
		if compareNats(next.now.Den, most) > 0 {
			times := part(difference(most, c.last.Den), c.now.Den)
			other := c.with(api.Int{Abs: times}).now
			return nearer(c.now, other, now, difference(last, product(times, now)))
		}
		c, last, now = next, now, rest
	}
	return a
}

// nearer returns the one of two numbers that misses a third one by less, of two that miss it by the same the simpler one; what they miss it by is given times the denominators of the number and of the third one.
func nearer(x, y number, missX, missY api.Nat) number {
	distances := wide.Of(missX).Times(wide.Of(y.Den)).Compare(wide.Of(missY).Times(wide.Of(x.Den)))
	if cmp.Or(distances, compareNats(x.Den, y.Den), compareNats(x.Num.Abs, y.Num.Abs)) < 0 {
		return x
	}
	return y
}
