package basis

import (
	"victualler/bits"
	"victualler/nat"
)

// whole is an integer; 0 has no sign. Most are words and cost no further
// memory. long is there where the size is no word, and only there.
type whole struct {
	neg  bool
	word uint64
	long *nat.Nat
}

func ofWord(neg bool, word uint64) whole { return whole{neg: neg && word > 0, word: word} }

// ofNat takes a number over that nobody outside has.
func ofNat(neg bool, n *nat.Nat) whole {
	if word, ok := n.Word(); ok {
		return ofWord(neg, word)
	}
	return whole{neg: neg, long: n}
}

func (a whole) size() *nat.Nat {
	if a.long == nil {
		return nat.Of(a.word)
	}
	return a.long
}

func (a whole) none() bool { return a.word == 0 && a.long == nil }

// single tells whether the size is 1.
func (a whole) single() bool { return a.word == 1 }

func short(a, b whole) bool { return a.long == nil && b.long == nil }

func (a whole) same(b whole) bool {
	return a.neg == b.neg && a.word == b.word && a.long.Cmp(b.long) == 0
}

func (a whole) turned() whole {
	a.neg = !a.neg && !a.none()
	return a
}

func (a whole) times(b whole) whole {
	neg := a.neg != b.neg
	if short(a, b) {
		if high, low := bits.Mul(a.word, b.word); high == 0 {
			return ofWord(neg, low)
		}
	}
	return ofNat(neg, a.size().Mul(b.size()))
}

func (a whole) plus(b whole) whole {
	if a.neg != b.neg {
		return difference(a, b)
	}
	if short(a, b) {
		if sum, carry := bits.Add(a.word, b.word, false); !carry {
			return ofWord(a.neg, sum)
		}
	}
	return ofNat(a.neg, a.size().Add(b.size()))
}

// difference is the sum of two whose signs are not the same: it has that of the
// greater size.
func difference(a, b whole) whole {
	if short(a, b) && a.word >= b.word {
		return ofWord(a.neg, a.word-b.word)
	}
	if short(a, b) {
		return ofWord(b.neg, b.word-a.word)
	}
	if size, ok := a.size().Less(b.size()); ok {
		return ofNat(a.neg, size)
	}
	size, _ := b.size().Less(a.size())
	return ofNat(b.neg, size)
}

// div is a by b, which is above 0, towards 0, and the size of the rest.
func (a whole) div(b whole) (q, rest whole) {
	if short(a, b) {
		return ofWord(a.neg, a.word/b.word), ofWord(false, a.word%b.word)
	}
	size, left, _ := a.size().Div(b.size())
	return ofNat(a.neg, size), ofNat(false, left)
}

// divisor is the greatest that divides both; at least one of them is not 0.
func (a whole) divisor(b whole) whole {
	if a.single() || b.single() {
		return ofWord(false, 1)
	}
	if !short(a, b) {
		return ofNat(false, a.size().Gcd(b.size()))
	}
	x, y := a.word, b.word
	for y != 0 {
		x, y = y, x%y
	}
	return ofWord(false, x)
}

// multiple is the least that both divide; both are above 0.
func (a whole) multiple(b whole) whole {
	own, _ := b.div(a.divisor(b))
	return a.times(own)
}
