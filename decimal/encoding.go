package decimal

import (
	"soroban/api"
	"soroban/guard"
	"soroban/word"
)

// encoding is how the bits of a finite datum have its exponent and its coefficient: this is a head, which counts units, and a rest. The payload of a NaN is a rest.
type encoding interface {
	// unit returns what a head counts.
	unit() word.Word
	// parted returns the exponent, from 0 on, and the head that a combination has.
	parted(combination int) (exp, head int)
	// joined returns the combination that has them.
	joined(exp, head int) int
	// rest returns the rest that trailing bits are.
	rest(trail word.Word) word.Word
	// trail returns the trailing bits that are a rest.
	trail(rest word.Word) word.Word
}

// encodingOf returns an encoding of a format; if there is no such one, the call ends with ErrArg.
func encodingOf(x format, enc int) encoding {
	switch enc {
	case api.EnPacked:
		return packedDigits{x, packingOfDigits()}
	case api.EnBinary:
		return binaryInteger{x}
	}
	guard.FailAt(api.ErrArg, 0)
	return nil
}

// The first three bits of a head that is 8 or 9 are always 100: instead of them, the combination begins with two bits 1, which no exponent begins with.
const (
	largeHead  = 8
	largeStart = 0b11
	headBits   = 3
)

// packedDigits has the first digit as the head, and the others by threes in ten bits each.
type packedDigits struct {
	format
	packing packing
}

func (p packedDigits) unit() word.Word {
	return word.TenTo(p.digits - 1)
}

func (p packedDigits) parted(combination int) (exp, head int) {
	start, behind := combination>>p.behind, combination&(1<<p.behind-1)
	first, head := start>>headBits, start&(1<<headBits-1)
	if first == largeStart {
		first, head = head>>1, largeHead+head&1
	}
	return first<<p.behind + behind, head
}

func (p packedDigits) joined(exp, head int) int {
	first, behind := exp>>p.behind, exp&(1<<p.behind-1)
	start := first<<headBits + head
	if head >= largeHead {
		start = largeStart<<headBits + first<<1 + head&1
	}
	return start<<p.behind + behind
}

func (p packedDigits) rest(trail word.Word) word.Word {
	var rest word.Word
	for at := p.trailing - tenBits; at >= 0; at -= tenBits {
		three := p.packing.unpack(int(trail.Down(at).Last(tenBits).Lo))
		rest = rest.Times(thousand).Plus(word.Scaled(three, 0))
	}
	return rest
}

func (p packedDigits) trail(rest word.Word) word.Word {
	var trail word.Word
	for at := 0; at < p.trailing; at += tenBits {
		quotient, three := rest.Over(thousand)
		trail = trail.Plus(word.Scaled(p.packing.pack(int(three)), at))
		rest = quotient
	}
	return trail
}

// binaryInteger has the coefficient as a binary number, whose first bits are the head.
type binaryInteger struct {
	format
}

func (b binaryInteger) unit() word.Word {
	return word.Scaled(1, b.trailing)
}

func (b binaryInteger) parted(combination int) (exp, head int) {
	if combination>>(b.behind+headBits) == largeStart {
		return combination >> 1 & (1<<(b.behind+2) - 1), largeHead + combination&1
	}
	return combination >> headBits, combination & (1<<headBits - 1)
}

func (b binaryInteger) joined(exp, head int) int {
	if head >= largeHead {
		return largeStart<<(b.behind+headBits) + exp<<1 + head&1
	}
	return exp<<headBits + head
}

func (b binaryInteger) rest(trail word.Word) word.Word { return trail }
func (b binaryInteger) trail(rest word.Word) word.Word { return rest }
