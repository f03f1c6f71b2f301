package frac

import "cmp"

// Every sum is tried on words first; where a part, or a step on the way, is no
// word, it is done on naturals.

// Add: see the chapter.
func (a *Frac) Add(b *Frac) *Frac { return sum(a, b, b.Sign() < 0) }

// Sub: see the chapter.
func (a *Frac) Sub(b *Frac) *Frac { return sum(a, b, b.Sign() > 0) }

// sum is a and the size of b, which is below 0 if negB.
func sum(a, b *Frac, negB bool) *Frac {
	if z, ok := shortSum(a, b, negB); ok {
		return z
	}
	return longSum(a, b, negB)
}

// Mul: see the chapter.
func (a *Frac) Mul(b *Frac) *Frac {
	if z, ok := shortProduct(a, b); ok {
		return z
	}
	return longProduct(a, b)
}

// Div: see the chapter.
func (a *Frac) Div(b *Frac) (*Frac, bool) {
	if b.Sign() == 0 {
		return nil, false
	}
	return a.Mul(turned(b)), true
}

// turned is 1 by b, which is not 0.
func turned(b *Frac) *Frac {
	if n, d, ok := b.words(); ok {
		return ofWords(b.neg, d, n)
	}
	return &Frac{neg: b.neg, long: &parts{b.long.d, b.long.n}}
}

// Cmp: see the chapter.
func (a *Frac) Cmp(b *Frac) int {
	sign := a.Sign()
	if sign != b.Sign() {
		return cmp.Compare(sign, b.Sign())
	}
	order, ok := shortCompare(a, b)
	if !ok {
		order = longCompare(a, b)
	}
	// Below 0 the greater size is less.
	return sign * order
}
