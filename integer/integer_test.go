package integer_test

import (
	"math"
	"math/big"
	"slices"
	"testing"

	"victualler/frac"
	"victualler/integer"
)

// edges are sizes at which a number begins or ends to be a word, or to have a
// product or a sum that is one.
var edges = []string{"0", "1", "2", "3", "6", "10", "4294967295", "4294967296", "4294967297", "9223372036854775807", "9223372036854775808", "18446744073709551614", "18446744073709551615", "18446744073709551616", "18446744073709551617", "36893488147419103230", "340282366920938463463374607431768211455", "340282366920938463463374607431768211456", "680564733841876926926749214863536422912"}

// numbers are the edges with both signs.
func numbers() (list []*big.Int) {
	for _, s := range edges {
		x, _ := new(big.Int).SetString(s, 10)
		list = append(list, x, new(big.Int).Neg(x))
	}
	return list
}

func of(x *big.Int) integer.Int {
	f, _ := frac.Get(x.String())
	n, _ := integer.Parts(f)
	return n
}

// same holds a number against what it is to be, and its form, too: 0 has no
// sign, and a word is short.
func same(t *testing.T, what string, got integer.Int, want *big.Int) {
	t.Helper()
	f, ok := got.By(integer.Of(1))
	if !ok || f.Text() != want.String() || got.Sign() != want.Sign() || got.Cmp(of(want)) != 0 {
		t.Errorf("%s is %s, not %s", what, f.Text(), want)
	}
	if minus := got.Neg(); minus.Sign() != -want.Sign() || minus.Neg().Cmp(got) != 0 {
		t.Errorf("%s turned has sign %d", what, minus.Sign())
	}
	if (want.CmpAbs(big.NewInt(1)) == 0) != got.Single() {
		t.Errorf("%s: Single is %v", what, got.Single())
	}
}

func TestOf(t *testing.T) {
	for _, n := range []int64{0, 1, -1, 7, -7, math.MaxInt64, math.MinInt64} {
		same(t, "Of", integer.Of(n), big.NewInt(n))
	}
	same(t, "an empty one", integer.Int{}, new(big.Int))
}

func TestSumsAndProducts(t *testing.T) {
	for _, x := range numbers() {
		for _, y := range numbers() {
			a, b, name := of(x), of(y), x.String()+" and "+y.String()
			same(t, "Add of "+name, a.Add(b), new(big.Int).Add(x, y))
			same(t, "Sub of "+name, a.Sub(b), new(big.Int).Sub(x, y))
			same(t, "Mul of "+name, a.Mul(b), new(big.Int).Mul(x, y))
			if a.Cmp(b) != x.Cmp(y) {
				t.Errorf("Cmp of %s is %d", name, a.Cmp(b))
			}
			same(t, "the first", a, x)
			same(t, "the second", b, y)
		}
	}
}

func TestDivisors(t *testing.T) {
	for _, x := range numbers() {
		for _, y := range numbers() {
			a, b, name := of(x), of(y), x.String()+" and "+y.String()
			common := new(big.Int).GCD(nil, nil, new(big.Int).Abs(x), new(big.Int).Abs(y))
			same(t, "Gcd of "+name, a.Gcd(b), common)
			multiple := new(big.Int).Abs(new(big.Int).Mul(x, y))
			q, rest := a.Div(b)
			if y.Sign() == 0 {
				same(t, "quotient of "+name, q, new(big.Int))
				same(t, "rest of "+name, rest, x)
				same(t, "Lcm of "+name, a.Lcm(b), new(big.Int))
				continue
			}
			same(t, "quotient of "+name, q, new(big.Int).Quo(x, y))
			same(t, "rest of "+name, rest, new(big.Int).Rem(x, y))
			same(t, "Lcm of "+name, a.Lcm(b), multiple.Quo(multiple, common))
		}
	}
}

func TestFractions(t *testing.T) {
	for _, x := range numbers() {
		for _, y := range numbers() {
			f, ok := of(x).By(of(y))
			if ok != (y.Sign() != 0) {
				t.Errorf("%s by %s: %v", x, y, ok)
			}
			if !ok {
				continue
			}
			want := new(big.Rat).SetFrac(x, y)
			if f.Text() != want.RatString() {
				t.Errorf("%s by %s is %s", x, y, f.Text())
			}
			n, over := integer.Parts(f)
			same(t, "numerator of "+f.Text(), n, want.Num())
			same(t, "denominator of "+f.Text(), over, want.Denom())
		}
	}
	n, over := integer.Parts(nil)
	same(t, "numerator of nil", n, new(big.Int))
	same(t, "denominator of nil", over, big.NewInt(1))
}

// lowest asks Lowest of some numbers, each times one.
func lowest(t *testing.T, times, over *big.Int, list []*big.Int) {
	t.Helper()
	common := new(big.Int).Set(over)
	var in []integer.Int
	for _, x := range list {
		common.GCD(nil, nil, common, new(big.Int).Abs(x))
		in = append(in, of(new(big.Int).Mul(x, times)))
	}
	before := slices.Clone(in)
	gotOver, got := integer.Lowest(of(new(big.Int).Mul(over, times)), in)
	if len(got) != len(list) {
		t.Fatalf("Lowest of %v has %d numbers", list, len(got))
	}
	same(t, "over", gotOver, new(big.Int).Quo(over, common))
	for k, x := range list {
		same(t, "a number", got[k], new(big.Int).Quo(x, common))
		if in[k].Cmp(before[k]) != 0 {
			t.Errorf("Lowest changed number %d of %v", k, list)
		}
	}
}

func TestLowest(t *testing.T) {
	var all []*big.Int
	for _, x := range numbers() {
		all = append(all, x)
	}
	for _, times := range all {
		if times.Sign() <= 0 {
			continue
		}
		for _, over := range all {
			if over.Sign() <= 0 {
				continue
			}
			lowest(t, times, over, nil)
			lowest(t, times, over, all[:1])
			lowest(t, times, over, all)
			lowest(t, times, over, []*big.Int{big.NewInt(6), new(big.Int), big.NewInt(-12), big.NewInt(6)})
			// Of these the sum that is asked ahead of all is 0, or has a divisor
			// that not all have.
			lowest(t, times, over, []*big.Int{big.NewInt(2), big.NewInt(-1)})
			lowest(t, times, over, []*big.Int{big.NewInt(3), new(big.Int), big.NewInt(1)})
			lowest(t, times, over, []*big.Int{big.NewInt(4), big.NewInt(1)})
		}
	}
}

// All small ones, none left out.
func TestSmallLowest(t *testing.T) {
	for over := range int64(24) {
		for a := int64(-12); a <= 12; a++ {
			for b := int64(-12); b <= 12; b++ {
				lowest(t, big.NewInt(1), big.NewInt(over+1), []*big.Int{big.NewInt(a), big.NewInt(b), big.NewInt(a + b)})
			}
		}
	}
}
