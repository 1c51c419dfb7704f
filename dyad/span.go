package dyad

import (
	"iter"
	"slices"

	"soroban/api"
	"soroban/guard"
)

// span is a proper api.Span, or one whose ends are no dyads only because of their limits.
type span struct {
	lo, hi fraction
}

// spanOf returns a span.
func spanOf(s api.Span) span {
	return span{of(s.Lo), of(s.Hi)}
}

// kept returns the span of dyads; if an end is none, the call ends with ErrLimit.
func (s span) kept() api.Span {
	return api.Span{Lo: s.lo.kept(), Hi: s.hi.kept()}
}

// opposite returns a span turned around 0.
func (s span) opposite() span {
	return span{s.hi.opposite(), s.lo.opposite()}
}

// side returns 1 if a span lies above 0, -1 if it lies below, otherwise 0.
func (s span) side() int {
	low, high := s.lo.man.Sign(), s.hi.man.Sign()
	if low == high {
		return low
	}
	return 0
}

func least(x, y fraction) fraction {
	if x.compare(y) <= 0 {
		return x
	}
	return y
}

func greatest(x, y fraction) fraction {
	if x.compare(y) >= 0 {
		return x
	}
	return y
}

func (s span) hull(t span) span {
	return span{least(s.lo, t.lo), greatest(s.hi, t.hi)}
}

// meet returns what two spans have both; if this is nothing, the call ends with ErrNone.
func (s span) meet(t span) span {
	both := span{greatest(s.lo, t.lo), least(s.hi, t.hi)}
	guard.Must(both.lo.compare(both.hi) <= 0, api.ErrNone)
	return both
}

// ends yields the ends of a span; if both are the same number, it yields one.
func (s span) ends(yield func(fraction) bool) {
	if yield(s.lo) && s.lo.compare(s.hi) < 0 {
		yield(s.hi)
	}
}

// pair is two operands.
type pair struct {
	x, y fraction
}

// corners yields the pairs of ends of two spans: an operation that rises or falls steadily with each operand has its least and its greatest result there.
func corners(a, b span) iter.Seq[pair] {
	return func(yield func(pair) bool) {
		for x := range a.ends {
			for y := range b.ends {
				if !yield(pair{x, y}) {
					return
				}
			}
		}
	}
}

// enclosed returns the least span, with ends of so many bits, that has the results of an operation for some operands, of which there is at least one.
func enclosed[T any](operands iter.Seq[T], result func(T) cut, bits int) span {
	var all []span
	for x := range operands {
		r := result(x)
		all = append(all, span{r.rounded(bits, api.RdDown), r.rounded(bits, api.RdUp)})
	}
	s := all[0]
	for _, t := range all[1:] {
		s = s.hull(t)
	}
	return s
}

// aroundRat returns the span of so many bits around a rational number.
func aroundRat(r api.Rat, bits int) span {
	return enclosed(slices.Values([]api.Rat{r}), func(r api.Rat) cut { return cutRat(r, bits) }, bits)
}

// outward returns a span rounded outward.
func (s span) outward(bits int) span {
	return enclosed(s.ends, exact, bits)
}

// plus returns the span of all sums: both operands have to be at the same end for the least and for the greatest one.
func (s span) plus(t span, bits int) span {
	pairs := []pair{{s.lo, t.lo}, {s.hi, t.hi}}
	return enclosed(slices.Values(pairs), func(p pair) cut { return exact(p.x.plus(p.y)) }, bits)
}

// times returns the span of all products.
func (s span) times(t span, bits int) span {
	return enclosed(corners(s, t), func(p pair) cut { return exact(p.x.times(p.y)) }, bits)
}

// over returns the span of all quotients.
func (s span) over(t span, bits int) span {
	guard.Must(t.side() != 0, api.ErrDiv)
	return enclosed(corners(s, t), func(p pair) cut { return p.x.over(p.y, bits) }, bits)
}

// root returns the span of all square roots.
func (s span) root(bits int) span {
	guard.Must(s.lo.man.Sign() >= 0, api.ErrRange)
	return enclosed(s.ends, func(x fraction) cut { return x.root(bits) }, bits)
}
