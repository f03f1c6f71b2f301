package frac_test

import (
	"math"
	"math/big"
	"strconv"
	"strings"
	"testing"

	"victualler/frac"
	"victualler/nat"
)

// dice throws numbers that are the same in every run.
type dice uint64

func (d *dice) below(n int) int {
	*d = *d*6364136223846793005 + 1442695040888963407
	return int(*d>>33) % n
}

// bits throws a number of at most n bits, often a round one.
func (d *dice) bits(n int) *big.Int {
	one := big.NewInt(1)
	x := new(big.Int).Lsh(one, uint(d.below(n)))
	switch d.below(4) {
	case 0:
		return x
	case 1:
		return x.Sub(x, one)
	}
	y := new(big.Int)
	for range x.BitLen()/31 + 1 {
		y.Lsh(y, 31).Or(y, big.NewInt(int64(d.below(1<<31))))
	}
	return y.Mod(y, x)
}

// rat throws a fraction whose parts have at most n bits.
func (d *dice) rat(n int) *big.Rat {
	lower := d.bits(n)
	lower.Add(lower, big.NewInt(1))
	x := new(big.Rat).SetFrac(d.bits(n), lower)
	if d.below(2) == 0 {
		x.Neg(x)
	}
	return x
}

func ratOf(t *testing.T, s string) *big.Rat {
	t.Helper()
	x, ok := new(big.Rat).SetString(s)
	if !ok {
		t.Fatalf("no fraction: %s", s)
	}
	return x
}

// edges are parts at the edges of words, some with divisors in common.
func edges() []string {
	return []string{"1", "2", "6", "4294967295", "4294967296", "9223372036854775807", "9223372036854775808",
		"18446744073709551614", "18446744073709551615", "18446744073709551616", "18446744073709551617",
		"36893488147419103230", "340282366920938463463374607431768211455", "340282366920938463463374607431768211456"}
}

// fractions have both signs, parts at the edges of words, and thrown parts.
func fractions(t *testing.T) []*big.Rat {
	t.Helper()
	xs := []*big.Rat{new(big.Rat)}
	for i, upper := range edges() {
		for k, lower := range edges() {
			x := ratOf(t, upper+"/"+lower)
			if (i+k)%2 == 0 {
				x.Neg(x)
			}
			xs = append(xs, x)
		}
	}
	d := dice(3)
	for _, n := range []int{3, 16, 32, 33, 60, 64, 65, 130, 300} {
		for range 8 {
			xs = append(xs, d.rat(n))
		}
	}
	return xs
}

func natural(t *testing.T, x *big.Int) *nat.Nat {
	t.Helper()
	n, ok := nat.Get(new(big.Int).Abs(x).String())
	if !ok {
		t.Fatalf("no natural: %.40s", x)
	}
	return n
}

// of makes the fraction by New.
func of(t *testing.T, x *big.Rat) *frac.Frac {
	t.Helper()
	a, ok := frac.New(x.Sign() < 0, natural(t, x.Num()), natural(t, x.Denom()))
	if !ok {
		t.Fatalf("P3.1: New of %.80s is nothing", x)
	}
	return a
}

func get(t *testing.T, s string) *frac.Frac {
	t.Helper()
	a, ok := frac.Get(s)
	if !ok || a == nil {
		t.Fatalf("P3.1: Get(%.40q) is nothing", s)
	}
	return a
}

// same holds an answer against the fraction that is asked for.
func same(t *testing.T, what string, got *frac.Frac, want *big.Rat) {
	t.Helper()
	if got == nil || got.Text() != want.RatString() {
		t.Errorf("P3.1: %.160s is %.80s, not %.80s", what, got.Text(), want.RatString())
	}
}

func TestOf(t *testing.T) {
	ns := []int64{0, 1, -1, 9, -10, 1 << 31, -1 << 31, 1 << 32, math.MaxInt64, math.MaxInt64 - 1, -math.MaxInt64, math.MinInt64, math.MinInt64 + 1}
	for _, n := range ns {
		a := frac.Of(n)
		same(t, "Of "+strconv.FormatInt(n, 10), a, new(big.Rat).SetInt64(n))
		if !a.Whole() || a.Floor().Cmp(a) != 0 || a.Cmp(get(t, strconv.FormatInt(n, 10))) != 0 {
			t.Errorf("P3.1: Of(%d) is not that number", n)
		}
	}
}

func TestNew(t *testing.T) {
	for _, c := range []struct {
		neg  bool
		n, d string
		want string
	}{
		{false, "6", "4", "3/2"}, {true, "6", "4", "-3/2"}, {false, "4", "6", "2/3"}, {true, "8", "4", "-2"},
		{false, "0", "1", "0"}, {true, "0", "1", "0"}, {true, "0", "18446744073709551616", "0"}, {false, "0", "7", "0"},
		{true, "1", "1", "-1"}, {false, "5", "5", "1"}, {true, "1", "3", "-1/3"},
		{false, "36893488147419103232", "18446744073709551616", "2"},
		{true, "18446744073709551616", "36893488147419103232", "-1/2"},
		{true, "55340232221128654848", "36893488147419103232", "-3/2"},
		{false, "55340232221128654851", "3", "18446744073709551617"},
		{true, "3", "55340232221128654851", "-1/18446744073709551617"},
	} {
		n, _ := nat.Get(c.n)
		d, _ := nat.Get(c.d)
		if a, ok := frac.New(c.neg, n, d); !ok || a.Text() != c.want {
			t.Errorf("P3.1: New(%v, %s, %s) is %s, %v, not %s", c.neg, c.n, c.d, a.Text(), ok, c.want)
		}
	}
}

func TestNewOfAllParts(t *testing.T) {
	d := dice(5)
	for range 3000 {
		upper, lower := d.bits(140), d.bits(140)
		lower.Add(lower, big.NewInt(1))
		both := d.bits(70)
		both.Add(both, big.NewInt(1))
		want := new(big.Rat).SetFrac(upper, lower)
		n, m := natural(t, upper.Mul(upper, both)), natural(t, lower.Mul(lower, both))
		plus, ok := frac.New(false, n, m)
		same(t, "New of "+n.Text()+", "+m.Text(), plus, want)
		minus, okToo := frac.New(true, n, m)
		same(t, "New below 0 of "+n.Text()+", "+m.Text(), minus, want.Neg(want))
		if !ok || !okToo {
			t.Errorf("P3.1: New of %s, %s is not ok", n.Text(), m.Text())
		}
	}
}

func TestNewOfNothing(t *testing.T) {
	long, _ := nat.Get(strings.Repeat("7", 60))
	for _, d := range []*nat.Nat{nil, new(nat.Nat), nat.Of(0), long.Shr(4000)} {
		for _, n := range []*nat.Nat{nil, new(nat.Nat), nat.Of(0), nat.Of(7), long} {
			for _, neg := range []bool{false, true} {
				if a, ok := frac.New(neg, n, d); ok || a != nil {
					t.Errorf("P3.1: New(%v, %s, 0) is %s, %v", neg, n.Text(), a.Text(), ok)
				}
			}
		}
	}
	for _, n := range []*nat.Nat{nil, new(nat.Nat)} {
		for _, d := range []*nat.Nat{nat.Of(1), nat.Of(9), long} {
			if a, ok := frac.New(true, n, d); !ok || a.Text() != "0" || a.Sign() != 0 {
				t.Errorf("P3.1: New of nil by %s is %s, %v", d.Text(), a.Text(), ok)
			}
		}
	}
}

func TestGetAndText(t *testing.T) {
	texts := []string{"0", "1", "-1", "10", "-10", "1/2", "-1/2", "7/3", "1/500", "-99/100", "1/10", "100/7"}
	for _, n := range []int{1, 18, 19, 20, 21, 38, 39, 1000, 1999, 2000} {
		nines, round := strings.Repeat("9", n), "1"+strings.Repeat("0", n-1)
		texts = append(texts, nines, "-"+nines, round, "1/"+nines, "-1/"+nines, nines+"/2", "-2/"+nines)
		if n > 1 {
			texts = append(texts, "1/"+round, "-3/"+round, nines+"/"+round, "-"+round+"/"+nines)
		}
	}
	for _, x := range fractions(t) {
		texts = append(texts, x.RatString())
	}
	for _, s := range texts {
		a := get(t, s)
		if a.Text() != s {
			t.Errorf("P3.1: Text of %.50q is %.50q", s, a.Text())
		}
		if of(t, ratOf(t, s)).Cmp(a) != 0 {
			t.Errorf("P3.1: Get(%.50q) is another number", s)
		}
	}
}

func TestGetOfNoFraction(t *testing.T) {
	nines := strings.Repeat("9", 2001)
	both := "36893488147419103234" // twice 18446744073709551617
	texts := []string{"", " ", "-", "--1", "+1", "-+1", "1-", " 1", "1 ", "1\n", "1_000", "1,5", "0.5", "1.", "1e3", "0x10", "inf", "NaN", "a", "é", "１", "\x00", "1\x00", "\xff", "½",
		"00", "01", "-01", "-0", "-00", "0/1", "-0/1", "0/2", "0/0", "-0/3", "1/0", "-1/0", "/", "-/", "1/", "/1", "/2", "-/2", "1/1", "-1/1", "5/1", "2/2", "2/4", "6/4", "-6/4", "10/5", "9/3",
		"1/02", "01/2", "1/-2", "-1/-2", "1/+2", "+1/2", "- 1/2", "1 /2", "1/ 2", "1/2 ", "1//2", "1/2/3", "1/2/", "/1/2", "1\\2", "1/2.5", "1/2-",
		nines, "-" + nines, "1/" + nines, "-1/" + nines, nines + "/2", "0" + nines[1:], "1/0" + nines[2:], strings.Repeat("0", 2001), strings.Repeat("-", 3000), strings.Repeat("/", 3000), strings.Repeat("1/", 5000),
		nines[:2000] + "/" + nines[:2000], nines[:2000] + "/9", "9/" + nines[:2000], "18446744073709551617/" + both, both + "/18446744073709551617", "-" + both + "/" + both, both + "/2", "2/" + both,
		"340282366920938463463374607431768211456/18446744073709551616", "18446744073709551616/1", "18446744073709551616/0", "0/18446744073709551616", "-0/18446744073709551616"}
	for _, s := range texts {
		if a, ok := frac.Get(s); ok || a != nil {
			t.Errorf("P3.1, P0.2: Get(%.50q) is %.50q, %v", s, a.Text(), ok)
		}
	}
}

// Of all short texts of these bytes just those are fractions that are written
// as the fraction that they name is written.
func TestGetOfAllShortTexts(t *testing.T) {
	const few = "-/0123469+. "
	texts, start := []string{""}, 0
	for range 5 {
		end := len(texts)
		for ; start < end; start++ {
			for k := range len(few) {
				texts = append(texts, texts[start]+few[k:k+1])
			}
		}
	}
	for _, s := range texts {
		x, named := new(big.Rat).SetString(s)
		want := named && x.RatString() == s
		a, ok := frac.Get(s)
		if ok != want || ok && a.Text() != s || !ok && a != nil {
			t.Fatalf("P3.1: Get(%q) is %s, %v", s, a.Text(), ok)
		}
	}
}

// A sign and a stroke do not count among the digits.
func TestGetAtItsLimit(t *testing.T) {
	nines := strings.Repeat("9", 2000)
	for _, s := range []string{nines, "-" + nines, nines + "/2", "2/" + nines, nines[1:] + "8/" + nines, "-" + nines[1:] + "8/" + nines} {
		if a, ok := frac.Get(s); !ok || a.Text() != s {
			t.Errorf("P3.1: Get of %d bytes is nothing", len(s))
		}
	}
	for _, s := range []string{nines + "9", "-" + nines + "9", nines + "9/2", "2/" + nines + "9", nines + "8/" + nines, nines[1:] + "8/" + nines + "9"} {
		if a, ok := frac.Get(s); ok || a != nil {
			t.Errorf("P3.1: Get of %d bytes is something", len(s))
		}
	}
}

func TestTextOfLongParts(t *testing.T) {
	x := ratOf(t, strings.Repeat("7", 2000)+"/"+"1"+strings.Repeat("0", 1999))
	a, want := of(t, x), new(big.Rat).Set(x)
	for range 3 {
		a, want = a.Mul(a), want.Mul(want, want)
		same(t, "a long product", a, want)
		same(t, "a long product below 0", a.Neg(), new(big.Rat).Neg(want))
	}
}

func TestAddSubMulDivCmp(t *testing.T) {
	xs := fractions(t)
	as := make([]*frac.Frac, len(xs))
	for k, x := range xs {
		as[k] = of(t, x)
	}
	for i, x := range xs {
		for k, y := range xs {
			a, b, z := as[i], as[k], new(big.Rat)
			pair := " of " + x.RatString() + ", " + y.RatString()
			same(t, "Add"+pair, a.Add(b), z.Add(x, y))
			same(t, "Sub"+pair, a.Sub(b), z.Sub(x, y))
			same(t, "Mul"+pair, a.Mul(b), z.Mul(x, y))
			if got := a.Cmp(b); got != x.Cmp(y) {
				t.Errorf("P3.1: Cmp%.160s is %d", pair, got)
			}
			q, ok := a.Div(b)
			if ok != (y.Sign() != 0) || !ok && q != nil {
				t.Errorf("P3.1: Div%.160s is %v", pair, ok)
			}
			if ok {
				same(t, "Div"+pair, q, z.Quo(x, y))
			}
		}
	}
}

func TestSumsOfThrownParts(t *testing.T) {
	d := dice(11)
	for k := range 30000 {
		n := []int{8, 32, 40, 64, 70, 200}[k%6]
		x, y, z := d.rat(n), d.rat(n), new(big.Rat)
		a, b := of(t, x), of(t, y)
		pair := " of " + x.RatString() + ", " + y.RatString()
		same(t, "Add"+pair, a.Add(b), z.Add(x, y))
		same(t, "Sub"+pair, a.Sub(b), z.Sub(x, y))
		same(t, "Mul"+pair, a.Mul(b), z.Mul(x, y))
		if got := a.Cmp(b); got != x.Cmp(y) {
			t.Errorf("P3.1: Cmp%.160s is %d", pair, got)
		}
		if q, ok := a.Div(b); ok {
			same(t, "Div"+pair, q, z.Quo(x, y))
		}
	}
}

// What two fractions next to each other differ by is not lost.
func TestCmpOfNeighbours(t *testing.T) {
	for _, s := range []string{"18446744073709551614/18446744073709551615", "18446744073709551615/18446744073709551616", "9223372036854775807/9223372036854775808", "4294967295/4294967296", "340282366920938463463374607431768211455/340282366920938463463374607431768211456"} {
		x := ratOf(t, s)
		next := new(big.Rat).SetFrac(x.Denom(), new(big.Int).Add(x.Denom(), big.NewInt(1)))
		a, b := of(t, x), of(t, next)
		if a.Cmp(b) != -1 || b.Cmp(a) != 1 || a.Neg().Cmp(b.Neg()) != 1 || b.Neg().Cmp(a.Neg()) != -1 || a.Cmp(a) != 0 || a.Cmp(of(t, x)) != 0 || a.Neg().Cmp(a) != -1 || a.Cmp(a.Neg()) != 1 {
			t.Errorf("P3.1: Cmp of %s and its neighbour", s)
		}
	}
}

// Parts that grow past words and come back to them leave nothing behind.
func TestSumsThereAndBack(t *testing.T) {
	a, x := frac.Of(0), new(big.Rat)
	for k := int64(1); k <= 150; k++ {
		x.Add(x, big.NewRat(1, k*k))
		a = a.Add(of(t, big.NewRat(1, k*k)))
		same(t, "a sum of turned squares", a, x)
	}
	for k := int64(150); k >= 1; k-- {
		a = a.Sub(of(t, big.NewRat(1, k*k)))
	}
	none(t, "a sum taken off again", a)
	a = frac.Of(-1)
	for k := int64(1); k <= 60; k++ {
		a = a.Mul(frac.Of(-k))
	}
	for k := int64(60); k >= 1; k-- {
		a, _ = a.Div(frac.Of(-k))
	}
	same(t, "a product that is divided again", a, big.NewRat(-1, 1))
	none(t, "-1 and 1", a.Add(frac.Of(1)))
}

// none holds that a is 0 for every call.
func none(t *testing.T, what string, a *frac.Frac) {
	t.Helper()
	neg, n, d := a.Parts()
	if neg || n == nil || n.Text() != "0" || d == nil || d.Text() != "1" {
		t.Errorf("P3.1: Parts of %s are %v, %s, %s", what, neg, n.Text(), d.Text())
	}
	if a.Text() != "0" || a.Sign() != 0 || !a.Whole() || a.Cmp(nil) != 0 || a.Cmp(frac.Of(0)) != 0 || frac.Of(0).Cmp(a) != 0 || a.Cmp(frac.Of(1)) != -1 || a.Cmp(frac.Of(-1)) != 1 {
		t.Errorf("P3.1: %s is not 0: %s", what, a.Text())
	}
	if got := a.Neg(); got.Text() != "0" || got.Sign() != 0 || got.Cmp(a) != 0 {
		t.Errorf("P3.1: Neg of %s is %s", what, got.Text())
	}
	if q, ok := frac.Of(7).Div(a); ok || q != nil {
		t.Errorf("P3.1: by %s is %s, %v", what, q.Text(), ok)
	}
}

func TestNought(t *testing.T) {
	long := get(t, "-340282366920938463463374607431768211455/18446744073709551616")
	half := get(t, "1/2")
	q, ok := frac.Of(0).Div(long)
	if !ok {
		t.Error("P3.1: Div of 0")
	}
	turned, _ := frac.New(true, nat.Of(0), nat.Of(9))
	for what, a := range map[string]*frac.Frac{
		"Of(0)": frac.Of(0), "Get of 0": get(t, "0"), "New of 0": turned, "Neg of 0": frac.Of(0).Neg(), "0 by a long one": q,
		"a less a": half.Sub(half), "a and its Neg": half.Neg().Add(half), "a long one less itself": long.Sub(long), "a long one and its Neg": long.Neg().Add(long),
		"0 · a": frac.Of(0).Mul(half.Neg()), "a · 0": half.Neg().Mul(frac.Of(0)), "a long one · 0": long.Mul(frac.Of(0)), "0 · a long one": frac.Of(0).Mul(long),
		"Floor of 1/2": half.Floor(), "Floor of a long one": get(t, "18446744073709551616/340282366920938463463374607431768211455").Floor(),
	} {
		none(t, what, a)
	}
}

func TestDivByNought(t *testing.T) {
	for _, a := range []*frac.Frac{nil, new(frac.Frac), frac.Of(0), frac.Of(-3), get(t, "1/3"), get(t, strings.Repeat("7", 80)), get(t, "-1/"+strings.Repeat("7", 80))} {
		for _, b := range []*frac.Frac{nil, new(frac.Frac), frac.Of(0), frac.Of(0).Neg()} {
			if q, ok := a.Div(b); ok || q != nil {
				t.Errorf("P3.1: %.20s by 0 is %s, %v", a.Text(), q.Text(), ok)
			}
		}
	}
}

func TestSignNegFloorWholeParts(t *testing.T) {
	xs := fractions(t)
	for n := int64(-30); n <= 30; n++ {
		for d := int64(1); d <= 7; d++ {
			xs = append(xs, big.NewRat(n, d))
		}
	}
	for _, x := range xs {
		for _, x := range []*big.Rat{x, new(big.Rat).Neg(x)} {
			a, name := of(t, x), x.RatString()
			if a.Sign() != x.Sign() || a.Whole() != x.IsInt() {
				t.Errorf("P3.1: %s: Sign %d, Whole %v", name, a.Sign(), a.Whole())
			}
			same(t, "Neg of "+name, a.Neg(), new(big.Rat).Neg(x))
			same(t, "Neg twice of "+name, a.Neg().Neg(), x)
			// Euclid's quotient is downward, for a denominator is above 0.
			same(t, "Floor of "+name, a.Floor(), new(big.Rat).SetInt(new(big.Int).Div(x.Num(), x.Denom())))
			neg, n, d := a.Parts()
			if neg != (x.Sign() < 0) || n.Text() != new(big.Int).Abs(x.Num()).String() || d.Text() != x.Denom().String() {
				t.Errorf("P3.1: Parts of %s are %v, %s, %s", name, neg, n.Text(), d.Text())
			}
			if back, ok := frac.New(neg, n, d); !ok || back.Cmp(a) != 0 {
				t.Errorf("P3.1: New of the Parts of %s", name)
			}
		}
	}
}

func TestFloorAtItsEdges(t *testing.T) {
	for s, want := range map[string]string{
		"0": "0", "1": "1", "-1": "-1", "1/2": "0", "-1/2": "-1", "3/2": "1", "-3/2": "-2", "-1/18446744073709551616": "-1", "1/18446744073709551616": "0",
		"18446744073709551615/2": "9223372036854775807", "-18446744073709551615/2": "-9223372036854775808", "-18446744073709551616": "-18446744073709551616",
		"-36893488147419103231/2": "-18446744073709551616", "36893488147419103231/2": "18446744073709551615", "-36893488147419103229/2": "-18446744073709551615", "-55340232221128654847/3": "-18446744073709551616",
	} {
		got := get(t, s).Floor()
		if got.Text() != want || !got.Whole() || got.Cmp(get(t, want)) != 0 || got.Floor().Text() != want || get(t, s).Whole() != (s == want) {
			t.Errorf("P3.1: Floor of %s is %s, not %s", s, got.Text(), want)
		}
	}
}

// Nil and the empty struct are 0, on either side of every call.
func TestNilIsNought(t *testing.T) {
	for _, s := range []string{"0", "7/3", "-7/3", "18446744073709551615", "-1/18446744073709551616", "340282366920938463463374607431768211455/2"} {
		a, x := get(t, s), ratOf(t, s)
		minus, zero := new(big.Rat).Neg(x), new(big.Rat)
		for _, nought := range []*frac.Frac{nil, new(frac.Frac)} {
			none(t, "nil", nought)
			none(t, "Floor of nil", nought.Floor())
			same(t, "nil + "+s, nought.Add(a), x)
			same(t, s+" + nil", a.Add(nought), x)
			same(t, "nil - "+s, nought.Sub(a), minus)
			same(t, s+" - nil", a.Sub(nought), x)
			same(t, "nil · "+s, nought.Mul(a), zero)
			same(t, s+" · nil", a.Mul(nought), zero)
			none(t, "nil and nil", nought.Add(nil).Sub(nil).Mul(nil))
			if nought.Cmp(a) != -x.Sign() || a.Cmp(nought) != x.Sign() {
				t.Errorf("P3.1: nil against %s is %d, %d", s, nought.Cmp(a), a.Cmp(nought))
			}
			q, ok := nought.Div(a)
			if ok != (x.Sign() != 0) {
				t.Errorf("P3.1: nil by %s is %v", s, ok)
			}
			if ok {
				none(t, "nil by "+s, q)
			}
		}
	}
}

// Where the fraction is the same as one of the two, it is still another *Frac:
// who writes over an answer changes neither them nor another answer.
func TestAnswersAreNewMemory(t *testing.T) {
	for _, s := range []string{"0", "1", "-7/3", "18446744073709551615", "18446744073709551616", "-1/18446744073709551616", "-" + strings.Repeat("9", 90), strings.Repeat("9", 90) + "/2"} {
		a, zero, one := get(t, s), frac.Of(0), frac.Of(1)
		q, _ := a.Div(one)
		answers := []*frac.Frac{a.Add(zero), zero.Add(a), a.Add(nil), a.Sub(zero), a.Sub(nil), a.Mul(one), one.Mul(a), q, a.Floor(), a.Floor().Floor(), a.Neg(), a.Neg(), a.Neg().Neg(), zero.Neg(), zero.Add(zero), frac.Of(0), frac.Of(1), get(t, s)}
		texts := make([]string, len(answers))
		for k, b := range answers {
			texts[k] = b.Text()
		}
		for k, b := range answers {
			if b.Text() != texts[k] {
				t.Errorf("P0.3: answer %d of %.30s shares memory with one ahead of it", k, s)
			}
			*b = *get(t, "-3/5")
			if a.Text() != s || zero.Text() != "0" || one.Text() != "1" {
				t.Fatalf("P0.3: answer %d of %.30s shares memory with an argument", k, s)
			}
		}
	}
}

// The naturals that New takes are not kept, those that Parts tells neither.
func TestNaturalsAreNotKept(t *testing.T) {
	for _, s := range []string{"0", "1", "-7/3", "18446744073709551616", "-1/18446744073709551616", strings.Repeat("9", 90) + "/2"} {
		neg, n, d := get(t, s).Parts()
		a, _ := frac.New(neg, n, d)
		minus := a.Neg()
		wantMinus := minus.Text()
		*n, *d = *nat.Of(5), *nat.Of(0)
		_, n, d = a.Parts()
		_, n2, d2 := a.Parts()
		*n, *d = *nat.Of(0), *nat.Of(0)
		if n2.Cmp(n) == 0 && s != "0" || d2.Cmp(d) == 0 {
			t.Errorf("P0.3: Parts of %.30s share memory", s)
		}
		*n2, *d2 = *nat.Of(6), *nat.Of(6)
		if a.Text() != s || minus.Text() != wantMinus {
			t.Errorf("P0.3: %.30s is changed by way of its parts", s)
		}
	}
}

func TestNewChangesNoNatural(t *testing.T) {
	n, _ := nat.Get("36893488147419103234")
	d, _ := nat.Get("55340232221128654851")
	if a, ok := frac.New(true, n, d); !ok || a.Text() != "-2/3" || n.Text() != "36893488147419103234" || d.Text() != "55340232221128654851" {
		t.Errorf("P0.3: New of %s, %s is %s", n.Text(), d.Text(), a.Text())
	}
}

// No call writes into a fraction that is made, and each answers the same again.
func TestFractionsNeverChange(t *testing.T) {
	tell := func(a, b *frac.Frac) string {
		q, _ := a.Div(b)
		neg, n, d := a.Parts()
		told := strconv.FormatBool(neg) + n.Text() + " " + d.Text()
		for _, c := range []*frac.Frac{a.Add(b), a.Sub(b), a.Mul(b), q, a.Neg(), a.Floor()} {
			told += " " + c.Text()
		}
		return told + strconv.Itoa(a.Cmp(b)) + strconv.Itoa(a.Sign()) + strconv.FormatBool(a.Whole())
	}
	xs := fractions(t)
	for _, x := range xs {
		a := of(t, x)
		for _, y := range xs[:80] {
			b := of(t, y)
			first := tell(a, b)
			if a.Text() != x.RatString() || b.Text() != y.RatString() {
				t.Fatalf("P3.1: %s or %s is changed", x.RatString(), y.RatString())
			}
			if tell(a, b) != first {
				t.Fatalf("P0.5: %s and %s answer otherwise when asked again", x.RatString(), y.RatString())
			}
		}
	}
}
