package nat

import (
	"slices"

	"victualler/bits"
)

// quotient is x by y, which is not 0, downward, and the rest.
func quotient(x, y []uint64) (q, r []uint64) {
	if compare(x, y) < 0 {
		return nil, slices.Clone(x)
	}
	if len(y) == 1 {
		q = make([]uint64, len(x))
		return q, []uint64{byWord(q, x, y[0])}
	}
	// Both are shifted alike: a digit's guess wants the top bit of y set.
	shift := wordBits - bits.Len(y[len(y)-1])
	r = raised(x, shift)
	y = trim(raised(y, shift))
	q = make([]uint64, len(r)-len(y))
	for k := len(q) - 1; k >= 0; k-- {
		q[k] = takeDigit(r[k:k+len(y)+1], y)
	}
	return q, lowered(trim(r), shift)
}

// byWord writes x by y into q, which is as long, and gives the rest. q may be x.
func byWord(q, x []uint64, y uint64) uint64 {
	rest := uint64(0)
	for k := len(x) - 1; k >= 0; k-- {
		q[k], rest, _ = bits.Div(rest, x[k], y)
	}
	return rest
}

// takeDigit divides r by y and leaves the rest in r, which is one word longer.
// The quotient is one word, as the upper words of r are below y.
func takeDigit(r, y []uint64) uint64 {
	n := len(y)
	digit := guess(r[n-2:], y[n-1], y[n-2])
	lacks := subRow(r[:n], y, digit)
	if lacks > r[n] {
		// The guess looked at two words of y alone and may be too great by one.
		digit--
		addTo(r[:n], y)
	}
	r[n] = 0
	return digit
}

// guess divides the three words of r by the two words of y, downward, or gives
// the greatest word where that is past it: never less than the digit asked for.
func guess(r []uint64, yHigh, yLow uint64) uint64 {
	digit, rest, ok := bits.Div(r[2], r[1], yHigh)
	over := false
	if !ok {
		// r[2] is yHigh here: so much is left of it under the greatest word.
		digit = ^uint64(0)
		rest, over = bits.Add(r[1], yHigh, false)
	}
	high, low := bits.Mul(digit, yLow)
	for !over && (high > rest || high == rest && low > r[0]) {
		digit--
		rest, over = bits.Add(rest, yHigh, false)
		high, low = bits.Mul(digit, yLow)
	}
	return digit
}
