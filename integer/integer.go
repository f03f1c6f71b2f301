// Package integer counts in whole numbers with signs: what a layer reckons in
// that would spend its time on bringing fractions to lowest terms.
package integer

import (
	"cmp"

	"victualler/bits"
	"victualler/frac"
	"victualler/nat"
)

// Int is a whole number; 0 has no sign, and is what an empty Int is. Most are
// words and cost no further memory. long is there where the size is no word,
// and only there.
type Int struct {
	neg  bool
	word uint64
	long *nat.Nat
}

// Of is any int64.
func Of(n int64) Int { return ofWord(n < 0, bits.Abs(n)) }

func ofWord(neg bool, word uint64) Int { return Int{neg: neg && word > 0, word: word} }

// ofNat takes a number over that nobody outside has.
func ofNat(neg bool, n *nat.Nat) Int {
	if word, ok := n.Word(); ok {
		return ofWord(neg, word)
	}
	return Int{neg: neg, long: n}
}

// Parts are a fraction's, in lowest terms; over is above 0.
func Parts(x *frac.Frac) (n, over Int) {
	neg, upper, lower := x.Parts()
	return ofNat(neg, upper), ofNat(false, lower)
}

// By is the fraction a by b; nil, false: b is 0.
func (a Int) By(b Int) (*frac.Frac, bool) {
	return frac.New(a.neg != b.neg, a.size(), b.size())
}

func (a Int) size() *nat.Nat {
	if a.long == nil {
		return nat.Of(a.word)
	}
	return a.long
}

// Sign is -1, 0 or 1.
func (a Int) Sign() int {
	switch {
	case a.word == 0 && a.long == nil:
		return 0
	case a.neg:
		return -1
	}
	return 1
}

// Single tells whether the size is 1.
func (a Int) Single() bool { return a.word == 1 }

func short(a, b Int) bool { return a.long == nil && b.long == nil }

// Neg is a with the other sign.
func (a Int) Neg() Int {
	a.neg = !a.neg && a.Sign() != 0
	return a
}

// Cmp is -1, 0 or 1.
func (a Int) Cmp(b Int) int {
	sign := a.Sign()
	switch {
	case sign != b.Sign():
		return cmp.Compare(sign, b.Sign())
	case short(a, b):
		return sign * cmp.Compare(a.word, b.word)
	}
	return sign * a.size().Cmp(b.size())
}

// Mul is a by b.
func (a Int) Mul(b Int) Int {
	neg := a.neg != b.neg
	if short(a, b) {
		if high, low := bits.Mul(a.word, b.word); high == 0 {
			return ofWord(neg, low)
		}
	}
	return ofNat(neg, a.size().Mul(b.size()))
}

// Add is a and b.
func (a Int) Add(b Int) Int {
	if a.neg != b.neg {
		return difference(a, b)
	}
	if short(a, b) {
		if sum, carry := bits.Add(a.word, b.word, false); !carry {
			return ofWord(a.neg, sum)
		}
	}
	return ofNat(a.neg, a.size().Add(b.size()))
}

// Sub is a less b.
func (a Int) Sub(b Int) Int { return a.Add(b.Neg()) }

// difference is the sum of two whose signs are not the same: it has that of the
// greater size.
func difference(a, b Int) Int {
	if short(a, b) && a.word >= b.word {
		return ofWord(a.neg, a.word-b.word)
	}
	if short(a, b) {
		return ofWord(b.neg, b.word-a.word)
	}
	if size, ok := a.size().Less(b.size()); ok {
		return ofNat(a.neg, size)
	}
	size, _ := b.size().Less(a.size())
	return ofNat(b.neg, size)
}
