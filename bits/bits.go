// Package bits: shifts, halves, conversions: see doc/01-bits.md.
package bits

import "math"

const (
	wordBits = 64
	halfBits = 32
	half     = 1 << halfBits // one more than the greatest half
	topBit   = 1 << (wordBits - 1)
)

// Shl: see the chapter.
func Shl(x uint64, n int) uint64 {
	// The test stands ahead of -n, which wraps at the least int.
	if n <= -wordBits {
		return 0
	}
	if n < 0 {
		return x >> uint(-n)
	}
	return x << uint(n)
}

// Shr: see the chapter.
func Shr(x uint64, n int) uint64 {
	if n <= -wordBits {
		return 0
	}
	if n < 0 {
		return x << uint(-n)
	}
	return x >> uint(n)
}

// Sar: see the chapter.
func Sar(x int64, n int) int64 {
	if n <= -wordBits {
		return 0
	}
	if n < 0 {
		return x << uint(-n)
	}
	return x >> uint(n)
}

// Len: see the chapter.
func Len(x uint64) int {
	n := 0
	for step := halfBits; step > 0; step >>= 1 {
		if x>>uint(step) != 0 {
			x >>= uint(step)
			n += step
		}
	}
	return n + int(x)
}

// Zeros: see the chapter.
func Zeros(x uint64) int {
	if x == 0 {
		return wordBits
	}
	return Len(x&(^x+1)) - 1
}

// halves parts a word, so that a half by a half fits a word again.
func halves(x uint64) (upper, lower uint64) {
	return x >> halfBits, uint64(uint32(x))
}

// Mul: see the chapter.
func Mul(x, y uint64) (high, low uint64) {
	xUpper, xLower := halves(x)
	yUpper, yLower := halves(y)
	// A half by a half leaves room in its word for two more halves, so that
	// none of these sums wraps.
	over, last := halves(xLower * yLower)
	over, middle := halves(xUpper*yLower + over)
	more, third := halves(xLower*yUpper + middle)
	return xUpper*yUpper + over + more, third<<halfBits | last
}

// Div: see the chapter.
func Div(high, low, y uint64) (q, r uint64, ok bool) {
	if high >= y {
		return 0, 0, false
	}
	// Both sides are shifted alike, for digit wants the top bit of y set. By a
	// shift of 0 the word low gives nothing to high, for low>>64 is 0.
	shift := uint(wordBits - Len(y))
	y <<= shift
	high = high<<shift | low>>(wordBits-shift)
	third, last := halves(low << shift)
	first, rest := digit(high, third, y)
	second, rest := digit(rest, last, y)
	return first<<halfBits | second, rest >> shift, true
}

// digit divides rest and one half behind it by y. The quotient fits a half, as
// rest is below y; the guess at it is near, as the top bit of y is set.
func digit(rest, next, y uint64) (q, r uint64) {
	upper, lower := halves(y)
	q = rest / upper
	left := rest - q*upper
	// q is at most half+1, lower is below half: their product fits a word.
	for left < half && q*lower > left<<halfBits|next {
		q--
		left += upper
	}
	// Either term may be past a word, but their difference is below y: what
	// wraps off the one wraps off the other.
	return q, (rest<<halfBits | next) - q*y
}

// Add: see the chapter.
func Add(x, y uint64, carry bool) (uint64, bool) {
	sum := x + y
	out := sum < x
	if carry {
		sum++
		out = out || sum == 0
	}
	return sum, out
}

// Sub: see the chapter.
func Sub(x, y uint64, borrow bool) (uint64, bool) {
	diff := x - y
	out := x < y
	if borrow {
		out = out || diff == 0
		diff--
	}
	return diff, out
}

// Abs: see the chapter.
func Abs(x int64) uint64 {
	if x < 0 {
		// Turned as a word, for the least int64 has no int64 across from it.
		return ^uint64(x) + 1
	}
	return uint64(x)
}

// Signed: see the chapter.
func Signed(neg bool, x uint64) (int64, bool) {
	if neg && x == topBit {
		return math.MinInt64, true
	}
	if x >= topBit {
		return 0, false
	}
	if neg {
		return -int64(x), true
	}
	return int64(x), true
}

// Narrow: see the chapter.
func Narrow(x int64, width int) (int64, bool) {
	if width < 1 || width > wordBits {
		return 0, false
	}
	shift := uint(wordBits - width)
	n := x << shift >> shift
	return n, n == x
}
