package frac

import (
	"cmp"

	"victualler/bits"
)

// shortSum is sum on words; false: it takes more than words.
func shortSum(a, b *Frac, negB bool) (*Frac, bool) {
	n1, d1, ok1 := a.words()
	n2, d2, ok2 := b.words()
	if !ok1 || !ok2 {
		return nil, false
	}
	// What the denominators have in common stays out of the products, and no
	// other divisor than one of it can be left in the sum's parts.
	common := divisor(d1, d2)
	own1, own2 := d1/common, d2/common
	size1, ok1 := times(n1, own2)
	size2, ok2 := times(n2, own1)
	neg, n, okN := signedSum(a.Sign() < 0, size1, negB, size2)
	if !ok1 || !ok2 || !okN {
		return nil, false
	}
	left := divisor(common, n)
	d, ok := times(own1, d2/left)
	if !ok {
		return nil, false
	}
	return ofWords(neg, n/left, d), true
}

// signedSum adds sizes with their signs; false: the sum is no word.
func signedSum(negX bool, x uint64, negY bool, y uint64) (neg bool, size uint64, ok bool) {
	switch {
	case negX == negY:
		size, carry := bits.Add(x, y, false)
		return negX, size, !carry
	case x >= y:
		return negX, x - y, true
	}
	return negY, y - x, true
}

// shortProduct is the product on words; false: it takes more than words.
func shortProduct(a, b *Frac) (*Frac, bool) {
	n1, d1, ok1 := a.words()
	n2, d2, ok2 := b.words()
	if !ok1 || !ok2 {
		return nil, false
	}
	// Each alone is in lowest terms: a divisor in common stands crosswise.
	first, second := divisor(n1, d2), divisor(n2, d1)
	n, okN := times(n1/first, n2/second)
	d, okD := times(d1/second, d2/first)
	if !okN || !okD {
		return nil, false
	}
	return ofWords(a.Sign() != b.Sign(), n, d), true
}

// shortCompare compares the sizes of short fractions; false: one is long.
func shortCompare(a, b *Frac) (int, bool) {
	n1, d1, ok1 := a.words()
	n2, d2, ok2 := b.words()
	if !ok1 || !ok2 {
		return 0, false
	}
	high1, low1 := bits.Mul(n1, d2)
	high2, low2 := bits.Mul(n2, d1)
	return cmp.Or(cmp.Compare(high1, high2), cmp.Compare(low1, low2)), true
}

// times is x by y; false: that is no word.
func times(x, y uint64) (uint64, bool) {
	high, low := bits.Mul(x, y)
	return low, high == 0
}

// divisor is the greatest that divides both; at least one of them is not 0.
func divisor(x, y uint64) uint64 {
	for y != 0 {
		x, y = y, x%y
	}
	return x
}
