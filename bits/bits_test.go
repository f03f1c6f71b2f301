package bits_test

import (
	"math"
	"math/big"
	"testing"

	"victualler/bits"
)

const (
	top   = uint64(math.MaxUint64)
	upper = uint64(0xffffffff00000000) // the upper half alone
)

// dice throws words that are the same in every run; some are short.
type dice uint64

func (d *dice) word() uint64 {
	x := uint64(0)
	for range 4 {
		*d = *d*6364136223846793005 + 1442695040888963407
		x = x<<16 | uint64(*d>>48)
	}
	*d = *d*6364136223846793005 + 1442695040888963407
	return x >> (*d >> 58)
}

// words are those at the edges of halves and words, and some thrown ones.
func words() []uint64 {
	ws := []uint64{0, 1, 2, 3, 7, 10, top, top - 1, 1<<63 - 1, 1 << 63, 1<<63 + 1,
		1<<31 - 1, 1 << 31, 1<<32 - 1, 1 << 32, 1<<32 + 1, 1<<33 - 1, upper, upper + 1,
		1<<63 | 1<<32 - 1, 1<<63 | 1<<31, 0x5555555555555555, 0xaaaaaaaaaaaaaaaa}
	d := dice(7)
	for range 40 {
		ws = append(ws, d.word())
	}
	return ws
}

// signedWords are the same words as signed ones.
func signedWords() []int64 {
	var ns []int64
	for _, w := range words() {
		ns = append(ns, int64(w))
	}
	return ns
}

// ways are shifts: all short ones to both sides, and the farthest.
func ways() []int {
	ns := []int{math.MinInt, math.MinInt + 1, math.MinInt32, -1 << 32, -1<<32 + 1, -1000, -256, -255,
		255, 256, 1000, math.MaxInt32, 1 << 32, 1<<32 + 1, math.MaxInt - 1, math.MaxInt}
	for n := -130; n <= 130; n++ {
		ns = append(ns, n)
	}
	return ns
}

func bigOf(x uint64) *big.Int { return new(big.Int).SetUint64(x) }

// pair is the number that two words are.
func pair(high, low uint64) *big.Int {
	x := new(big.Int).Lsh(bigOf(high), 64)
	return x.Add(x, bigOf(low))
}

// wordOf is the lowest 64 bits of x, of one below 0 too.
func wordOf(x *big.Int) uint64 {
	return new(big.Int).And(x, bigOf(top)).Uint64()
}

// moved is x by 2^n, downward: what a shift to the left is ahead of its cutting.
// No shift of more than 200 differs from one of 200.
func moved(x *big.Int, n int) *big.Int {
	n = max(-200, min(200, n))
	if n < 0 {
		return new(big.Int).Rsh(x, uint(-n))
	}
	return new(big.Int).Lsh(x, uint(n))
}

func TestShlAndShrOfAllWays(t *testing.T) {
	for _, x := range words() {
		for _, n := range ways() {
			if got, want := bits.Shl(x, n), wordOf(moved(bigOf(x), n)); got != want {
				t.Errorf("P1.1: Shl(%#x, %d) is %#x, not %#x", x, n, got, want)
			}
			back := -max(n, -1000)
			if got, want := bits.Shr(x, n), wordOf(moved(bigOf(x), back)); got != want {
				t.Errorf("P1.1: Shr(%#x, %d) is %#x, not %#x", x, n, got, want)
			}
		}
	}
}

func TestShiftsAtTheirEdges(t *testing.T) {
	for _, c := range []struct {
		n        int
		shl, shr uint64
	}{
		{0, top, top}, {1, top - 1, top >> 1}, {63, 1 << 63, 1}, {64, 0, 0}, {65, 0, 0}, {128, 0, 0}, {1 << 32, 0, 0}, {math.MaxInt, 0, 0},
		{-1, top >> 1, top - 1}, {-63, 1, 1 << 63}, {-64, 0, 0}, {-65, 0, 0}, {-1 << 32, 0, 0}, {math.MinInt, 0, 0}, {math.MinInt + 1, 0, 0},
	} {
		if got := bits.Shl(top, c.n); got != c.shl {
			t.Errorf("P1.1: Shl by %d: %#x, not %#x", c.n, got, c.shl)
		}
		if got := bits.Shr(top, c.n); got != c.shr {
			t.Errorf("P1.1: Shr by %d: %#x, not %#x", c.n, got, c.shr)
		}
	}
}

func TestSarOfAllWays(t *testing.T) {
	for _, x := range signedWords() {
		for _, n := range ways() {
			back := -max(n, -1000)
			want := int64(wordOf(moved(big.NewInt(x), back)))
			if got := bits.Sar(x, n); got != want {
				t.Errorf("P1.1: Sar(%d, %d) is %d, not %d", x, n, got, want)
			}
		}
	}
}

func TestSarAtItsEdges(t *testing.T) {
	for _, c := range []struct {
		x    int64
		n    int
		want int64
	}{
		{-1, 1, -1}, {-3, 1, -2}, {3, 1, 1}, {-5, 0, -5},
		{math.MinInt64, 63, -1}, {math.MinInt64, 64, -1}, {math.MinInt64, 65, -1}, {math.MinInt64, math.MaxInt, -1},
		{math.MaxInt64, 62, 1}, {math.MaxInt64, 63, 0}, {math.MaxInt64, 64, 0}, {math.MaxInt64, math.MaxInt, 0},
		{-1, -1, -2}, {-1, -63, math.MinInt64}, {-1, -64, 0}, {-1, -65, 0}, {-1, math.MinInt, 0}, {-1, math.MinInt + 1, 0},
		{math.MaxInt64, -1, -2}, {math.MinInt64, -1, 0}, {0, 5, 0}, {0, -5, 0},
	} {
		if got := bits.Sar(c.x, c.n); got != c.want {
			t.Errorf("P1.1: Sar(%d, %d) is %d, not %d", c.x, c.n, got, c.want)
		}
	}
}

func TestLen(t *testing.T) {
	for _, x := range words() {
		if got, want := bits.Len(x), bigOf(x).BitLen(); got != want {
			t.Errorf("P1.1: Len(%#x) is %d, not %d", x, got, want)
		}
	}
	if bits.Len(0) != 0 {
		t.Errorf("P1.1: Len(0) is %d", bits.Len(0))
	}
	for n := range 64 {
		least, most := uint64(1)<<n, top>>(63-n)
		if bits.Len(least) != n+1 || bits.Len(most) != n+1 {
			t.Errorf("P1.1: Len(%#x) is %d, Len(%#x) is %d, not %d", least, bits.Len(least), most, bits.Len(most), n+1)
		}
	}
}

func TestZeros(t *testing.T) {
	if bits.Zeros(0) != 64 {
		t.Errorf("P1.1: Zeros(0) is %d", bits.Zeros(0))
	}
	for n := range 64 {
		for _, x := range []uint64{1 << n, top << n, 1<<63 | 1<<n, 5 << n} {
			if x != 0 && bits.Zeros(x) != n {
				t.Errorf("P1.1: Zeros(%#x) is %d, not %d", x, bits.Zeros(x), n)
			}
		}
	}
	for _, x := range words() {
		if x != 0 && bits.Zeros(x) != int(bigOf(x).TrailingZeroBits()) {
			t.Errorf("P1.1: Zeros(%#x) is %d", x, bits.Zeros(x))
		}
	}
}

func TestMul(t *testing.T) {
	for _, x := range words() {
		for _, y := range words() {
			high, low := bits.Mul(x, y)
			want := new(big.Int).Mul(bigOf(x), bigOf(y))
			if pair(high, low).Cmp(want) != 0 {
				t.Errorf("P1.1: Mul(%#x, %#x) is %#x, %#x, not %#x", x, y, high, low, want)
			}
		}
	}
	if high, low := bits.Mul(top, top); high != top-1 || low != 1 {
		t.Errorf("P1.1: Mul of the greatest words is %#x, %#x", high, low)
	}
}

// checkDiv holds a quotient against the sentence: downward, and the rest;
// nothing where high is not below y.
func checkDiv(t *testing.T, high, low, y uint64) {
	t.Helper()
	q, r, ok := bits.Div(high, low, y)
	if high >= y {
		if ok || q != 0 || r != 0 {
			t.Errorf("P1.1, P0.2: Div(%#x, %#x, %#x) is %#x, %#x, %v", high, low, y, q, r, ok)
		}
		return
	}
	wantQ, wantR := new(big.Int).QuoRem(pair(high, low), bigOf(y), new(big.Int))
	if !ok || wantQ.Cmp(bigOf(q)) != 0 || wantR.Cmp(bigOf(r)) != 0 {
		t.Errorf("P1.1: Div(%#x, %#x, %#x) is %#x, %#x, %v, not %#x, %#x", high, low, y, q, r, ok, wantQ, wantR)
	}
}

func TestDiv(t *testing.T) {
	for _, y := range words() {
		for _, high := range words() {
			for _, low := range words() {
				checkDiv(t, high, low, y)
				if y != 0 {
					checkDiv(t, high%y, low, y)
				}
			}
			checkDiv(t, y, high, y)
			checkDiv(t, y-1, high, y)
		}
	}
}

// A quotient's half is guessed: these are divisors whose halves lead the guess
// astray, once, twice, and beyond a half.
func TestDivWhereDigitsAreGuessed(t *testing.T) {
	for _, first := range []uint64{1 << 31, 1<<31 + 1, 1<<32 - 1, 3, 1} {
		for _, second := range []uint64{0, 1, 1 << 31, 1<<32 - 2, 1<<32 - 1} {
			y := first<<32 | second
			for _, q := range []uint64{top, top - 1, upper, 1<<32 - 1, 1 << 32, 1<<63 | 1<<31, 1} {
				for _, rest := range []uint64{0, 1, y / 2, y - 1} {
					n := new(big.Int).Mul(bigOf(q), bigOf(y))
					n.Add(n, bigOf(rest))
					checkDiv(t, new(big.Int).Rsh(n, 64).Uint64(), wordOf(n), y)
				}
			}
		}
	}
}

func TestDivOfNothing(t *testing.T) {
	for _, c := range [][3]uint64{{0, 0, 0}, {0, 9, 0}, {top, top, 0}, {1, 0, 1}, {5, 7, 5}, {6, 7, 5}, {top, 0, top}, {1 << 63, 0, 1 << 63}} {
		if q, r, ok := bits.Div(c[0], c[1], c[2]); ok || q != 0 || r != 0 {
			t.Errorf("P1.1: Div of %#x is %#x, %#x, %v", c, q, r, ok)
		}
	}
	if q, r, ok := bits.Div(top-1, top, top); !ok || q != top || r != top-1 {
		t.Errorf("P1.1: Div with high just below y is %#x, %#x, %v", q, r, ok)
	}
}

func TestAddAndSub(t *testing.T) {
	for _, x := range words() {
		for _, y := range words() {
			for _, in := range []bool{false, true} {
				more := bigOf(0)
				if in {
					more = bigOf(1)
				}
				want := new(big.Int).Add(bigOf(x), bigOf(y))
				want.Add(want, more)
				if sum, out := bits.Add(x, y, in); sum != wordOf(want) || out != (want.BitLen() > 64) {
					t.Errorf("P1.1: Add(%#x, %#x, %v) is %#x, %v", x, y, in, sum, out)
				}
				want.Sub(bigOf(x), bigOf(y))
				want.Sub(want, more)
				if diff, out := bits.Sub(x, y, in); diff != wordOf(want) || out != (want.Sign() < 0) {
					t.Errorf("P1.1: Sub(%#x, %#x, %v) is %#x, %v", x, y, in, diff, out)
				}
			}
		}
	}
}

func TestCarriesAtTheirEdges(t *testing.T) {
	for _, c := range []struct {
		x, y    uint64
		in      bool
		sum     uint64
		carry   bool
		diff    uint64
		borrows bool
	}{
		{0, 0, false, 0, false, 0, false},
		{0, 0, true, 1, false, top, true},
		{top, 0, false, top, false, top, false},
		{top, 0, true, 0, true, top - 1, false},
		{top, top, false, top - 1, true, 0, false},
		{top, top, true, top, true, top, true},
		{0, top, true, 0, true, 0, true},
		{top, 1, false, 0, true, top - 1, false},
	} {
		if sum, carry := bits.Add(c.x, c.y, c.in); sum != c.sum || carry != c.carry {
			t.Errorf("P1.1: Add(%#x, %#x, %v) is %#x, %v", c.x, c.y, c.in, sum, carry)
		}
		if diff, borrows := bits.Sub(c.x, c.y, c.in); diff != c.diff || borrows != c.borrows {
			t.Errorf("P1.1: Sub(%#x, %#x, %v) is %#x, %v", c.x, c.y, c.in, diff, borrows)
		}
	}
}

func TestAbs(t *testing.T) {
	for _, x := range signedWords() {
		if want := new(big.Int).Abs(big.NewInt(x)).Uint64(); bits.Abs(x) != want {
			t.Errorf("P1.1: Abs(%d) is %d, not %d", x, bits.Abs(x), want)
		}
	}
	for x, want := range map[int64]uint64{0: 0, 1: 1, -1: 1, math.MaxInt64: 1<<63 - 1, -math.MaxInt64: 1<<63 - 1, math.MinInt64: 1 << 63} {
		if bits.Abs(x) != want {
			t.Errorf("P1.1: Abs(%d) is %d, not %d", x, bits.Abs(x), want)
		}
	}
}

func TestSigned(t *testing.T) {
	for _, x := range words() {
		for _, neg := range []bool{false, true} {
			want := bigOf(x)
			if neg {
				want.Neg(want)
			}
			n, ok := bits.Signed(neg, x)
			if ok != want.IsInt64() || ok && n != want.Int64() || !ok && n != 0 {
				t.Errorf("P1.1: Signed(%v, %d) is %d, %v", neg, x, n, ok)
			}
		}
	}
	for _, c := range []struct {
		neg  bool
		x    uint64
		want int64
		ok   bool
	}{
		{false, 0, 0, true}, {true, 0, 0, true}, {true, 1, -1, true},
		{false, 1<<63 - 1, math.MaxInt64, true}, {false, 1 << 63, 0, false}, {false, top, 0, false},
		{true, 1<<63 - 1, -math.MaxInt64, true}, {true, 1 << 63, math.MinInt64, true}, {true, 1<<63 + 1, 0, false}, {true, top, 0, false},
	} {
		if n, ok := bits.Signed(c.neg, c.x); n != c.want || ok != c.ok {
			t.Errorf("P1.1: Signed(%v, %d) is %d, %v", c.neg, c.x, n, ok)
		}
	}
}

// What Abs takes off, Signed puts back on.
func TestSignedOfAbs(t *testing.T) {
	for _, x := range signedWords() {
		if n, ok := bits.Signed(x < 0, bits.Abs(x)); !ok || n != x {
			t.Errorf("P1.1: %d comes back as %d, %v", x, n, ok)
		}
	}
}

// narrowed is the lowest width bits of x as a signed number, by division.
func narrowed(x int64, width int) int64 {
	span := new(big.Int).Lsh(big.NewInt(1), uint(width))
	n := new(big.Int).Mod(big.NewInt(x), span)
	if n.Bit(width-1) == 1 {
		n.Sub(n, span)
	}
	return n.Int64()
}

func TestNarrow(t *testing.T) {
	for width := 1; width <= 64; width++ {
		xs := append(signedWords(), 1<<(width-1)-1, -1<<(width-1), 1<<(width-1), -1<<(width-1)-1, math.MinInt64, math.MaxInt64)
		for _, x := range xs {
			want := narrowed(x, width)
			if n, ok := bits.Narrow(x, width); n != want || ok != (want == x) {
				t.Errorf("P1.1: Narrow(%d, %d) is %d, %v, not %d", x, width, n, ok, want)
			}
		}
	}
}

func TestNarrowToNoWidth(t *testing.T) {
	for _, width := range []int{0, -1, -63, -64, 65, 66, 128, 1 << 32, 1<<32 + 8, math.MinInt, math.MinInt + 8, math.MaxInt} {
		for _, x := range []int64{0, 1, -1, 300, math.MinInt64, math.MaxInt64} {
			if n, ok := bits.Narrow(x, width); n != 0 || ok {
				t.Errorf("P1.1, P0.2: Narrow(%d, %d) is %d, %v", x, width, n, ok)
			}
		}
	}
}
