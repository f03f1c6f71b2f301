package nat_test

import (
	"math"
	"math/big"
	"strconv"
	"strings"
	"testing"

	"victualler/nat"
)

const top = uint64(math.MaxUint64)

// dice throws words that are the same in every run.
type dice uint64

func (d *dice) below(n int) int {
	*d = *d*6364136223846793005 + 1442695040888963407
	return int(*d>>33) % n
}

func (d *dice) word() uint64 {
	switch d.below(6) {
	case 0:
		return 0
	case 1:
		return top
	case 2:
		return 1 << d.below(64)
	}
	x := uint64(0)
	for range 4 {
		x = x<<16 | uint64(d.below(1<<16))
	}
	return x >> d.below(64)
}

// number throws a number of at most n words.
func (d *dice) number(n int) *big.Int {
	x := new(big.Int)
	for range d.below(n + 1) {
		x.Lsh(x, 64).Or(x, new(big.Int).SetUint64(d.word()))
	}
	return x
}

func power(base, n int64) *big.Int {
	return new(big.Int).Exp(big.NewInt(base), big.NewInt(n), nil)
}

// numbers stand at the edges of words and of groups of digits; some are thrown.
func numbers() []*big.Int {
	xs := []*big.Int{big.NewInt(0), big.NewInt(6), big.NewInt(10)}
	for _, n := range []int64{0, 1, 31, 32, 33, 62, 63, 64, 65, 127, 128, 129, 192, 256, 320} {
		for d := range int64(3) {
			xs = append(xs, new(big.Int).Add(power(2, n), big.NewInt(d-1)))
		}
	}
	for _, n := range []int64{18, 19, 20, 38} {
		xs = append(xs, power(10, n), new(big.Int).Sub(power(10, n), big.NewInt(1)))
	}
	d := dice(1)
	for range 30 {
		xs = append(xs, d.number(7))
	}
	return xs
}

// of makes a number from its words alone, by none of its digits.
func of(x *big.Int) *nat.Nat {
	n := nat.Of(0)
	for k := (x.BitLen() + 63) / 64; k > 0; k-- {
		word := new(big.Int).Rsh(x, uint(64*k-64))
		word.And(word, new(big.Int).SetUint64(top))
		n = n.Shl(64).Add(nat.Of(word.Uint64()))
	}
	return n
}

func get(t *testing.T, s string) *nat.Nat {
	t.Helper()
	n, ok := nat.Get(s)
	if !ok || n == nil {
		t.Fatalf("P2.1: Get(%.40q) is nothing", s)
	}
	return n
}

// same holds an answer against the number that is asked for.
func same(t *testing.T, what string, got *nat.Nat, want *big.Int) {
	t.Helper()
	if got == nil || got.Text() != want.String() {
		t.Errorf("P2.1: %s is %.80s, not %.80s", what, got.Text(), want)
	}
}

func TestOfAndWord(t *testing.T) {
	d := dice(2)
	xs := []uint64{0, 1, 9, 10, 1<<32 - 1, 1 << 32, 1<<63 - 1, 1 << 63, top - 1, top}
	for range 200 {
		xs = append(xs, d.word())
	}
	for _, x := range xs {
		if got := nat.Of(x).Text(); got != strconv.FormatUint(x, 10) {
			t.Errorf("P2.1: Of(%d) is %s", x, got)
		}
		if got, ok := nat.Of(x).Word(); got != x || !ok {
			t.Errorf("P2.1: Word of %d is %d, %v", x, got, ok)
		}
		if got, ok := get(t, strconv.FormatUint(x, 10)).Word(); got != x || !ok {
			t.Errorf("P2.1: Get of %d is %d, %v", x, got, ok)
		}
	}
}

func TestWordOfMoreThanAWord(t *testing.T) {
	for _, x := range numbers() {
		if got, ok := of(x).Word(); ok != x.IsUint64() || ok && got != x.Uint64() || !ok && got != 0 {
			t.Errorf("P2.1, P0.2: Word of %s is %d, %v", x, got, ok)
		}
	}
	if got, ok := nat.Of(top).Add(nat.Of(1)).Word(); got != 0 || ok {
		t.Errorf("P2.1: Word of 2^64 is %d, %v", got, ok)
	}
}

func TestGetAndText(t *testing.T) {
	texts := []string{"0", "1", "9", "10", "90", "18446744073709551615", "18446744073709551616"}
	for _, n := range []int{1, 2, 17, 18, 19, 20, 21, 37, 38, 39, 57, 58, 1000, 1999, 2000} {
		texts = append(texts, strings.Repeat("9", n), "1"+strings.Repeat("0", n-1), strings.Repeat("1234567890", 200)[:n])
		if n > 1 {
			texts = append(texts, "1"+strings.Repeat("0", n-2)+"7")
		}
	}
	for _, s := range texts {
		if got := get(t, s).Text(); got != s {
			t.Errorf("P2.1: Text of %.40q is %.40q", s, got)
		}
		want, _ := new(big.Int).SetString(s, 10)
		if n := get(t, s); n.Cmp(of(want)) != 0 || n.Bits() != want.BitLen() {
			t.Errorf("P2.1: Get(%.40q) is another number", s)
		}
	}
	for _, x := range numbers() {
		same(t, "Text", of(x), x)
		same(t, "Get", get(t, x.String()), x)
	}
}

func TestGetOfNoNumber(t *testing.T) {
	texts := []string{"", "00", "01", "000", "007", "+1", "-1", "-0", "+0", " 1", "1 ", "\t1", "1\n", "1_000", "1,000", "1.0", ".", "1e3", "0x1", "0b1", "1a", "a", "/", ":", "1/", "1:",
		"\x00", "1\x00", "\xff", "1\xff", "١", "²", "1²", "½", "０", "inf",
		"0" + strings.Repeat("1", 1999), strings.Repeat("0", 2000), strings.Repeat("1", 2001), strings.Repeat("9", 1_000_000), "1" + strings.Repeat("0", 2000)}
	good := strings.Repeat("5", 60)
	for k := range good {
		for _, bad := range []string{"x", "-", " ", "/", ":"} {
			texts = append(texts, good[:k]+bad+good[k+1:])
		}
	}
	for _, s := range texts {
		if n, ok := nat.Get(s); n != nil || ok {
			t.Errorf("P2.1, P0.2: Get(%.40q) is %.40s, %v", s, n.Text(), ok)
		}
	}
}

// Get reads at most 2,000 digits, but numbers grow, and Text tells them all.
func TestTextOfLongNumbers(t *testing.T) {
	x := power(7, 3000)
	same(t, "Text", of(x), x)
	same(t, "2^100,000", nat.Of(1).Shl(100_000), power(2, 100_000))
	x, _ = new(big.Int).SetString(strings.Repeat("8", 2000), 10)
	n := get(t, strings.Repeat("8", 2000))
	same(t, "a square", n.Mul(n), x.Mul(x, x))
	x, n = power(10, 3800), get(t, "1"+strings.Repeat("0", 1900))
	same(t, "10^3,800", n.Mul(n), x)
}

func TestAddLessMulCmp(t *testing.T) {
	for _, x := range numbers() {
		for _, y := range numbers() {
			n, m := of(x), of(y)
			what := " of " + x.String() + ", " + y.String()
			same(t, "Add"+what, n.Add(m), new(big.Int).Add(x, y))
			same(t, "Mul"+what, n.Mul(m), new(big.Int).Mul(x, y))
			if got := n.Cmp(m); got != x.Cmp(y) {
				t.Errorf("P2.1: Cmp%s is %d", what, got)
			}
			less, ok := n.Less(m)
			switch {
			case ok != (x.Cmp(y) >= 0):
				t.Errorf("P2.1: Less%s tells %v", what, ok)
			case ok:
				same(t, "Less"+what, less, new(big.Int).Sub(x, y))
			case less != nil:
				t.Errorf("P2.1, P0.2: Less%s is %s beside false", what, less.Text())
			}
		}
	}
}

// checkDiv holds a quotient against its sentence.
func checkDiv(t *testing.T, x, y *big.Int) {
	t.Helper()
	q, r, ok := of(x).Div(of(y))
	if y.Sign() == 0 {
		if q != nil || r != nil || ok {
			t.Errorf("P2.1, P0.2: %s by 0 is %s, %s, %v", x, q.Text(), r.Text(), ok)
		}
		return
	}
	if !ok {
		t.Fatalf("P2.1: %s by %s is nothing", x, y)
	}
	wantQ, wantR := new(big.Int).QuoRem(x, y, new(big.Int))
	what := x.String() + " by " + y.String()
	same(t, what, q, wantQ)
	same(t, "the rest of "+what, r, wantR)
}

func TestDiv(t *testing.T) {
	one := big.NewInt(1)
	for _, x := range numbers() {
		for _, y := range numbers() {
			checkDiv(t, x, y)
			// The rests 0 and y-1, behind a quotient that is known.
			z := new(big.Int).Mul(x, y)
			checkDiv(t, z, y)
			if z.Sign() > 0 {
				checkDiv(t, z.Sub(z, one), y)
			}
		}
	}
}

// A word of a quotient is guessed from two words of y: here the guess is past a
// word, too great by a few, and too great still when the two words agree.
func TestDivWhereWordsAreGuessed(t *testing.T) {
	words := func(ws ...uint64) *big.Int {
		x := new(big.Int)
		for _, w := range ws {
			x.Lsh(x, 64).Or(x, new(big.Int).SetUint64(w))
		}
		return x
	}
	const half = uint64(1) << 63
	for _, c := range []struct{ x, y *big.Int }{
		{words(half, half-1, 0, 0), words(half, 0, 1)},
		{words(half, 0, 0, 0), words(half, 0, 1)},
		{words(half-1, top, top, 0), words(half, 0, 1)},
		{words(3, 0, half), words(1, 0, half>>2)},
		{words(0, half, half-1), words(1, 0, half)},
		{words(half, 0, 0, 0, 0), words(half, 0, top)},
		{words(half, 0, top, top), words(half, 1)},
		{words(half, top, 0), words(half, top)},
		{words(top, top, 0, 0), words(top, top)},
		{words(top, top-1, top), words(top, top)},
		{words(1, 0, 0, 0), words(1, top, top)},
	} {
		checkDiv(t, c.x, c.y)
	}
	d := dice(3)
	for range 5000 {
		y := words(half|d.word(), d.word(), d.word())
		x := new(big.Int).Mul(y, words(d.word(), d.word()))
		checkDiv(t, x.Add(x, words(d.word(), d.word())), y)
	}
}

// moved is x by 2^k, downward, but nothing of more than 100,000.
func moved(x *big.Int, k int) *big.Int {
	switch {
	case k < -100_000 || k > 100_000:
		return new(big.Int)
	case k < 0:
		return new(big.Int).Rsh(x, uint(-k))
	}
	return new(big.Int).Lsh(x, uint(k))
}

func TestShifts(t *testing.T) {
	ks := []int{0, 1, 2, 31, 32, 33, 63, 64, 65, 127, 128, 129, 191, 192, 193, 320, 447, 448, 449, 1000}
	for _, x := range numbers() {
		for _, k := range ks {
			what := x.String() + " by " + strconv.Itoa(k) + " bits"
			same(t, "Shl of "+what, of(x).Shl(k), moved(x, k))
			same(t, "Shl of minus "+what, of(x).Shl(-k), moved(x, -k))
			same(t, "Shr of "+what, of(x).Shr(k), moved(x, -k))
			same(t, "Shr of minus "+what, of(x).Shr(-k), moved(x, k))
		}
	}
}

func TestShiftsAtTheirEdges(t *testing.T) {
	long := power(3, 90_000) // of more than 100,001 bits
	n := of(long)
	for _, k := range []int{99_999, 100_000, 100_001, 100_002, 1 << 32, 1 << 62, math.MaxInt, math.MaxInt - 1} {
		for _, k := range []int{k, -k} {
			what := " by " + strconv.Itoa(k)
			if n.Shl(k).Cmp(of(moved(long, k))) != 0 || n.Shr(k).Cmp(of(moved(long, -k))) != 0 {
				t.Errorf("P2.1: a long number shifted%s", what)
			}
			if nat.Of(5).Shl(k).Cmp(of(moved(big.NewInt(5), k))) != 0 || nat.Of(5).Shr(k).Cmp(of(moved(big.NewInt(5), -k))) != 0 {
				t.Errorf("P2.1: 5 shifted%s", what)
			}
		}
	}
	same(t, "Shl(least int)", n.Shl(math.MinInt), new(big.Int))
	same(t, "Shr(least int)", n.Shr(math.MinInt), new(big.Int))
	if n.Shl(100_000).Bits() != long.BitLen()+100_000 || n.Shr(100_000).Bits() != long.BitLen()-100_000 {
		t.Error("P2.1: 100,000 bits are not beyond")
	}
}

func TestBitsAndTwos(t *testing.T) {
	if nat.Of(0).Bits() != 0 || nat.Of(0).Twos() != 0 {
		t.Errorf("P2.1: of 0: Bits %d, Twos %d", nat.Of(0).Bits(), nat.Of(0).Twos())
	}
	for k := range 300 {
		if n := nat.Of(1).Shl(k); n.Bits() != k+1 || n.Twos() != k {
			t.Errorf("P2.1: of 2^%d: Bits %d, Twos %d", k, n.Bits(), n.Twos())
		}
		if n := nat.Of(5).Shl(k); n.Bits() != k+3 || n.Twos() != k {
			t.Errorf("P2.1: of 5·2^%d: Bits %d, Twos %d", k, n.Bits(), n.Twos())
		}
	}
	for _, x := range numbers() {
		if n := of(x); n.Bits() != x.BitLen() || n.Twos() != int(x.TrailingZeroBits()) {
			t.Errorf("P2.1: of %s: Bits %d, Twos %d", x, n.Bits(), n.Twos())
		}
	}
}

// gcd is the answer that is asked for; big's own of 0 and x is x as well.
func gcd(x, y *big.Int) *big.Int { return new(big.Int).GCD(nil, nil, x, y) }

func TestGcd(t *testing.T) {
	same(t, "Gcd of 0 and 0", nat.Of(0).Gcd(nat.Of(0)), new(big.Int))
	d := dice(4)
	for _, x := range numbers() {
		for _, y := range numbers() {
			same(t, "Gcd of "+x.String()+", "+y.String(), of(x).Gcd(of(y)), gcd(x, y))
			a, b, c := new(big.Int).Mul(x, d.number(3)), new(big.Int).Mul(y, d.number(3)), d.number(4)
			a.Mul(a, c)
			b.Mul(b, c)
			same(t, "Gcd of "+a.String()+", "+b.String(), of(a).Gcd(of(b)), gcd(a, b))
		}
	}
}

// Neighbours of Fibonacci's row take the most divisions; and where words on top
// agree, or one number is far longer, few divisions are told ahead.
func TestGcdOfFarAndNearNumbers(t *testing.T) {
	x, y := big.NewInt(0), big.NewInt(1)
	for range 1500 {
		x, y = y, x.Add(x, y)
	}
	same(t, "Gcd of neighbours", of(x).Gcd(of(y)), big.NewInt(1))
	z := power(3, 500)
	a, b := new(big.Int).Mul(x, z), new(big.Int).Mul(y, z)
	same(t, "Gcd with a factor", of(b).Gcd(of(a)), z)
	d := dice(5)
	for range 300 {
		near := power(2, int64(64+d.below(400)))
		a := new(big.Int).Add(near, d.number(2))
		b := new(big.Int).Add(near, d.number(2))
		same(t, "Gcd of "+a.String()+", "+b.String(), of(a).Gcd(of(b)), gcd(a, b))
		a.Mul(a, power(10, int64(d.below(90))))
		same(t, "Gcd of "+a.String()+", "+b.String(), of(b).Gcd(of(a)), gcd(a, b))
	}
}

// Nil and the empty struct are 0, on either side of every call.
func TestNilIsNought(t *testing.T) {
	seven := nat.Of(7)
	for _, none := range []*nat.Nat{nil, new(nat.Nat)} {
		word, wordOK := none.Word()
		if none.Text() != "0" || none.Bits() != 0 || none.Twos() != 0 || word != 0 || !wordOK {
			t.Error("P2.1: nil is not 0")
		}
		if none.Cmp(nil) != 0 || none.Cmp(nat.Of(0)) != 0 || nat.Of(0).Cmp(none) != 0 || none.Cmp(seven) != -1 || seven.Cmp(none) != 1 {
			t.Error("P2.1: nil is not held against others as 0")
		}
		zero, wantSeven := new(big.Int), big.NewInt(7)
		same(t, "nil + nil", none.Add(none), zero)
		same(t, "nil + 7", none.Add(seven), wantSeven)
		same(t, "7 + nil", seven.Add(none), wantSeven)
		same(t, "nil · nil", none.Mul(none), zero)
		same(t, "nil · 7", none.Mul(seven), zero)
		same(t, "7 · nil", seven.Mul(none), zero)
		same(t, "Gcd of nil, nil", none.Gcd(none), zero)
		same(t, "Gcd of nil, 7", none.Gcd(seven), wantSeven)
		same(t, "Gcd of 7, nil", seven.Gcd(none), wantSeven)
		for _, k := range []int{0, 1, -1, 64, 100_000, 100_001, math.MinInt, math.MaxInt} {
			same(t, "nil shifted", none.Shl(k), zero)
			same(t, "nil shifted", none.Shr(k), zero)
		}
		less, ok := none.Less(none)
		same(t, "nil - nil", less, zero)
		more, okToo := seven.Less(none)
		same(t, "7 - nil", more, wantSeven)
		if n, nothing := none.Less(seven); !ok || !okToo || nothing || n != nil {
			t.Error("P2.1: Less of nil")
		}
		q, r, ok := none.Div(seven)
		same(t, "nil by 7", q, zero)
		same(t, "the rest of nil by 7", r, zero)
		if q, r, nothing := seven.Div(none); !ok || nothing || q != nil || r != nil {
			t.Error("P2.1: Div of nil")
		}
		if q, r, nothing := none.Div(none); nothing || q != nil || r != nil {
			t.Error("P2.1: nil by nil")
		}
	}
}

// Where the number is the same as one of the two, it is still another *Nat:
// who writes over an answer changes neither them nor another answer.
func TestAnswersAreNewMemory(t *testing.T) {
	for _, s := range []string{"0", "1", "7", "18446744073709551615", "18446744073709551616", strings.Repeat("9", 90)} {
		n, zero, one := get(t, s), nat.Of(0), nat.Of(1)
		q, r, _ := n.Div(one)
		q2, r2, _ := n.Div(n.Add(one))
		less, _ := n.Less(zero)
		again, _ := n.Less(nil)
		answers := []*nat.Nat{n.Add(zero), zero.Add(n), n.Add(nil), less, again, n.Mul(one), one.Mul(n), q, r, q2, r2,
			n.Shl(0), n.Shr(0), n.Gcd(n), n.Gcd(zero), zero.Gcd(n), n.Gcd(nil), nat.Of(0), nat.Of(1), get(t, s)}
		texts := make([]string, len(answers))
		for k, a := range answers {
			texts[k] = a.Text()
		}
		for k, a := range answers {
			if a.Text() != texts[k] {
				t.Errorf("P0.3: answer %d of %.30s shares memory with one ahead of it", k, s)
			}
			*a = *nat.Of(4).Shl(99)
			if n.Text() != s || zero.Text() != "0" || one.Text() != "1" {
				t.Fatalf("P0.3: answer %d of %.30s shares memory with an argument", k, s)
			}
		}
	}
}

// No call writes into a number that is made, and each answers the same again.
func TestNumbersNeverChange(t *testing.T) {
	xs := numbers()
	ns := make([]*nat.Nat, len(xs))
	for k, x := range xs {
		ns[k] = of(x)
	}
	tell := func(n, m *nat.Nat) string {
		q, r, _ := n.Div(m)
		less, _ := n.Less(m)
		told := ""
		for _, a := range []*nat.Nat{n.Add(m), n.Mul(m), less, q, r, n.Gcd(m), n.Shl(70), n.Shr(70), n.Shl(-3), n.Shr(0)} {
			told += a.Text() + " "
		}
		return told + strconv.Itoa(n.Bits()) + " " + strconv.Itoa(n.Twos()) + " " + strconv.Itoa(n.Cmp(m))
	}
	for i, n := range ns {
		for j, m := range ns {
			first := tell(n, m)
			if n.Text() != xs[i].String() || m.Text() != xs[j].String() {
				t.Fatalf("P2.1: %s or %s is changed", xs[i], xs[j])
			}
			if tell(n, m) != first {
				t.Fatalf("P0.5: %s and %s answer otherwise when asked again", xs[i], xs[j])
			}
		}
	}
}
