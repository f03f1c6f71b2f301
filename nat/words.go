package nat

import (
	"cmp"

	"victualler/bits"
)

// trim leaves the noughts on top away.
func trim(x []uint64) []uint64 {
	for len(x) > 0 && x[len(x)-1] == 0 {
		x = x[:len(x)-1]
	}
	return x
}

// compare takes trimmed words: the longer number is the greater one.
func compare(x, y []uint64) int {
	if len(x) != len(y) {
		return cmp.Compare(len(x), len(y))
	}
	for k := len(x) - 1; k >= 0; k-- {
		if x[k] != y[k] {
			return cmp.Compare(x[k], y[k])
		}
	}
	return 0
}

func sum(x, y []uint64) []uint64 {
	if len(x) < len(y) {
		x, y = y, x
	}
	z := make([]uint64, len(x)+1)
	copy(z, x)
	if addTo(z[:len(y)], y) {
		addOne(z[len(y):])
	}
	return z
}

// addTo adds y to z, which is as long, and tells of a carry.
func addTo(z, y []uint64) bool {
	carry := false
	for k, word := range y {
		z[k], carry = bits.Add(z[k], word, carry)
	}
	return carry
}

func addOne(z []uint64) {
	carry := true
	for k := 0; carry && k < len(z); k++ {
		z[k], carry = bits.Add(z[k], 0, true)
	}
}

// difference is x less y, which is not greater.
func difference(x, y []uint64) []uint64 {
	z := make([]uint64, len(x))
	borrow := false
	for k, word := range y {
		z[k], borrow = bits.Sub(x[k], word, borrow)
	}
	for k := len(y); k < len(x); k++ {
		z[k], borrow = bits.Sub(x[k], 0, borrow)
	}
	return z
}

func product(x, y []uint64) []uint64 {
	z := make([]uint64, len(x)+len(y))
	for k, word := range x {
		z[k+len(y)] = addRow(z[k:k+len(y)], y, word)
	}
	return z
}

// row is x by y and over, in two words: there is room for all of it.
func row(x, y, over uint64) (high, low uint64) {
	high, low = bits.Mul(x, y)
	low, carry := bits.Add(low, over, false)
	if carry {
		high++
	}
	return high, low
}

// addRow adds y by word to z, which is as long, and gives what goes over.
func addRow(z, y []uint64, word uint64) uint64 {
	over, carry := uint64(0), false
	for k := range y {
		high, low := row(y[k], word, over)
		z[k], carry = bits.Add(z[k], low, false)
		if carry {
			high++ // with z[k] too there is room in the two words
		}
		over = high
	}
	return over
}

// subRow takes y by word off z, which is as long, and gives what is lacking.
func subRow(z, y []uint64, word uint64) uint64 {
	over, borrow := uint64(0), false
	for k := range y {
		high, low := row(y[k], word, over)
		z[k], borrow = bits.Sub(z[k], low, false)
		if borrow {
			high++
		}
		over = high
	}
	return over
}

// raised is x by 2^k, k not below 0.
func raised(x []uint64, k int) []uint64 {
	whole, part := k/wordBits, k%wordBits
	z := make([]uint64, whole+len(x)+1)
	for i, word := range x {
		z[whole+i] |= bits.Shl(word, part)
		z[whole+i+1] = bits.Shr(word, wordBits-part)
	}
	return z
}

// lowered is x by 2^k downward, k not below 0.
func lowered(x []uint64, k int) []uint64 {
	whole, part := k/wordBits, k%wordBits
	if whole >= len(x) {
		return nil
	}
	x = x[whole:]
	z := make([]uint64, len(x))
	for i, word := range x {
		z[i] = bits.Shr(word, part)
		if i > 0 {
			z[i-1] |= bits.Shl(word, wordBits-part)
		}
	}
	return z
}
