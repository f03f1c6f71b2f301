package nat

import (
	"slices"

	"victualler/bits"
)

// divisor is the greatest that divides both x and y, which is not greater.
func divisor(x, y []uint64) []uint64 {
	if len(y) > 1 {
		x, y = shortened(x, y)
	}
	if len(y) == 0 {
		return slices.Clone(x)
	}
	return []uint64{wordDivisor(y[0], wordRest(x, y[0]))}
}

// shortened goes on from x and y to rests with the same divisors, until y is a
// word or none. Division by division would do; but the words on top of long
// numbers tell many divisions ahead, and then all of them are done at once.
func shortened(x, y []uint64) ([]uint64, []uint64) {
	x, y = widened(x, len(x)), widened(y, len(x))
	spareX, spareY := make([]uint64, len(x)), make([]uint64, len(x))
	for len(trim(y)) > 1 {
		n := len(trim(x))
		x, y, spareX, spareY = x[:n], y[:n], spareX[:n], spareY[:n]
		first, second, xAhead := foresee(x, y)
		if first.y == 0 {
			// Nothing, or x alone, was told ahead.
			_, rest := quotient(x, trim(y))
			x, y = y, widened(rest, n)
			continue
		}
		first.work(spareX, x, y, xAhead)
		second.work(spareY, x, y, !xAhead)
		x, y, spareX, spareY = spareX, spareY, x, y
	}
	return trim(x), trim(y)
}

// widened is x, not longer than n, in n words of its own.
func widened(x []uint64, n int) []uint64 {
	z := make([]uint64, n)
	copy(z, x)
	return z
}

// wordRest is what is left of x when it is divided by y, which is not 0.
func wordRest(x []uint64, y uint64) uint64 {
	rest := uint64(0)
	for k := len(x) - 1; k >= 0; k-- {
		_, rest, _ = bits.Div(rest, x[k], y)
	}
	return rest
}

func wordDivisor(x, y uint64) uint64 {
	for y != 0 {
		x, y = y, x%y
	}
	return x
}

// share says what a rest is made of: of so many x and so many y, the fewer
// taken off the more.
type share struct{ x, y uint64 }

// foresee divides on by the words on top of x and y alone, as long as the words
// below can't change a quotient (Collins's test, which stays one step behind:
// what it answers fits half a word). It gives two rests that follow one another,
// and whether in the first the x's are ahead of the y's; in the second it is
// the other way round. x has no 0 on top; both are as long, two words or more.
func foresee(x, y []uint64) (first, second share, xAhead bool) {
	n := len(x)
	shift := wordBits - bits.Len(x[n-1])
	a := bits.Shl(x[n-1], shift) | bits.Shr(x[n-2], wordBits-shift)
	b := bits.Shl(y[n-1], shift) | bits.Shr(y[n-2], wordBits-shift)
	second, third := share{x: 1}, share{y: 1}
	for b >= third.y && a-b >= second.y+third.y {
		q := a / b
		a, b = b, a%b
		next := share{second.x + q*third.x, second.y + q*third.y}
		first, second, third = second, third, next
		xAhead = !xAhead
	}
	return first, second, xAhead
}

// work writes the rest into z; z, x and y are as long as each other.
func (s share) work(z, x, y []uint64, xAhead bool) {
	more, less := s.x, s.y
	if !xAhead {
		x, y, more, less = y, x, less, more
	}
	overMore, overLess, borrow := uint64(0), uint64(0), false
	for k := range z {
		high, plus := row(x[k], more, overMore)
		overMore = high
		high, minus := row(y[k], less, overLess)
		overLess = high
		z[k], borrow = bits.Sub(plus, minus, borrow)
	}
}
