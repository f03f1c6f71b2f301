package basis_test

import (
	"fmt"
	"math"
	"math/big"
	"slices"
	"strings"
	"testing"

	"victualler/basis"
	"victualler/frac"
	"victualler/nat"
)

// dice throws numbers that are the same in every run.
type dice uint64

func (d *dice) below(n int) int {
	*d = *d*6364136223846793005 + 1442695040888963407
	return int(*d>>33) % n
}

// edges are sizes at which a number begins or ends to be short.
var edges = []string{"1", "2", "4294967295", "4294967296", "4294967297", "9223372036854775807", "9223372036854775808", "18446744073709551615", "18446744073709551616", "18446744073709551617", "340282366920938463463374607431768211456"}

// rat throws a fraction, often 0, now and then with long parts.
func (d *dice) rat() *big.Rat {
	x := big.NewRat(int64(d.below(7)-3), int64(d.below(3)+1))
	if d.below(8) == 0 {
		n, _ := new(big.Rat).SetString(edges[d.below(len(edges))])
		x.Mul(x, n)
	}
	if d.below(8) == 0 {
		n, _ := new(big.Rat).SetString(edges[d.below(len(edges))])
		x.Quo(x, n)
	}
	return x
}

type list []*big.Rat

// rats are the numbers of a text.
func rats(s string) list {
	l := list{}
	for _, w := range strings.Fields(s) {
		x, ok := new(big.Rat).SetString(w)
		if !ok {
			panic("no number: " + w)
		}
		l = append(l, x)
	}
	return l
}

// grid is a matrix by its columns.
type grid []list

func units(n int) grid {
	g := make(grid, n)
	for k := range g {
		g[k] = unit(n, k)
	}
	return g
}

func unit(n, at int) list {
	l := noughts(n)
	l[at] = big.NewRat(1, 1)
	return l
}

func noughts(n int) list {
	l := make(list, n)
	for k := range l {
		l[k] = new(big.Rat)
	}
	return l
}

func (d *dice) list(n int) list {
	l := make(list, n)
	for k := range l {
		l[k] = d.rat()
	}
	return l
}

// with has another column at a place.
func (g grid) with(at int, col list) grid {
	g = slices.Clone(g)
	g[at] = col
	return g
}

// regular tells by elimination whether the columns stand alone.
func (g grid) regular() bool {
	var lines grid
	for _, col := range g {
		lines = append(lines, slices.Clone(col))
	}
	for k := range lines {
		at := slices.IndexFunc(lines[k:], func(l list) bool { return l[k].Sign() != 0 })
		if at < 0 {
			return false
		}
		lines[k], lines[k+at] = lines[k+at], lines[k]
		for i := k + 1; i < len(lines); i++ {
			f := new(big.Rat).Quo(lines[i][k], lines[k][k])
			for j := range lines[i] {
				lines[i][j] = new(big.Rat).Sub(lines[i][j], new(big.Rat).Mul(f, lines[k][j]))
			}
		}
	}
	return true
}

// natural is a number of any length, which nat.Get would not take.
func natural(x *big.Int) *nat.Nat {
	n := nat.Of(0)
	bytes := x.Bytes()
	for k := 0; k < len(bytes); k++ {
		n = n.Shl(8).Add(nat.Of(uint64(bytes[k])))
	}
	return n
}

func fraction(x *big.Rat) *frac.Frac {
	if s := x.RatString(); len(s) <= 2000 {
		f, _ := frac.Get(s)
		return f
	}
	f, _ := frac.New(x.Sign() < 0, natural(new(big.Int).Abs(x.Num())), natural(x.Denom()))
	return f
}

func fractions(l list) []*frac.Frac {
	x := make([]*frac.Frac, len(l))
	for k, y := range l {
		x[k] = fraction(y)
	}
	return x
}

// told has the texts of fractions, nil if there is no list.
func told(x []*frac.Frac) []string {
	if x == nil {
		return nil
	}
	texts := make([]string, len(x))
	for k, f := range x {
		texts[k] = "nil"
		if f != nil {
			texts[k] = f.Text()
		}
	}
	return texts
}

func (l list) texts() []string {
	texts := make([]string, len(l))
	for k, x := range l {
		texts[k] = x.RatString()
	}
	return texts
}

// got reads an answer of n numbers back.
func got(t *testing.T, what string, x []*frac.Frac, n int) list {
	t.Helper()
	if x == nil && n > 0 || len(x) != n || slices.Contains(x, nil) {
		t.Fatalf("P15.1: %.300s is %.300v, not of %d numbers", what, told(x), n)
	}
	l := make(list, n)
	for k, f := range x {
		l[k], _ = new(big.Rat).SetString(f.Text())
	}
	return l
}

// sum is the sum of the products.
func (l list) sum(x list) *big.Rat {
	sum := new(big.Rat)
	for k, y := range l {
		if y.Sign() != 0 && x[k].Sign() != 0 {
			sum.Add(sum, new(big.Rat).Mul(y, x[k]))
		}
	}
	return sum
}

// solves holds Solve and Turned against the columns. There is just one x for
// each, so the products with it tell all.
func solves(t *testing.T, what string, b *basis.Basis, g grid, y list) {
	t.Helper()
	x := got(t, "Solve of "+what, b.Solve(fractions(y)), len(g))
	z := got(t, "Turned of "+what, b.Turned(fractions(y)), len(g))
	left := slices.Clone(y)
	for k, col := range g {
		for i, v := range col {
			if v.Sign() != 0 && x[k].Sign() != 0 {
				left[i] = new(big.Rat).Sub(left[i], new(big.Rat).Mul(v, x[k]))
			}
		}
		if sum := col.sum(z); sum.Cmp(y[k]) != 0 {
			t.Errorf("P15.1: %.300s: by Turned column %d is %.60s, not %.60s", what, k, sum.RatString(), y[k].RatString())
			return
		}
	}
	for i, v := range left {
		if v.Sign() != 0 {
			t.Errorf("P15.1: %.300s: by Solve row %d lacks %.60s", what, i, v.RatString())
			return
		}
	}
}

// is holds Size, Col, and what is beyond, against the columns.
func is(t *testing.T, what string, b *basis.Basis, g grid) {
	t.Helper()
	if b == nil || b.Size() != len(g) {
		t.Fatalf("P15.1: %.300s has Size %d, not %d", what, b.Size(), len(g))
	}
	for k, col := range g {
		if !slices.Equal(told(b.Col(k)), col.texts()) {
			t.Errorf("P15.1: %.300s: Col(%d) is %.300v, not %.300v", what, k, told(b.Col(k)), col.texts())
		}
	}
	for _, at := range []int{math.MinInt, -len(g), -1, len(g), len(g) + 1, math.MaxInt} {
		if at >= 0 && at < len(g) || at == 0 {
			continue
		}
		if col := b.Col(at); col != nil {
			t.Errorf("P15.1: %.300s: Col(%d) is %v", what, at, told(col))
		}
	}
}

// same holds all that a Basis tells against the columns; of the units all
// answers are asked, which are the whole inverse.
func same(t *testing.T, what string, b *basis.Basis, g grid) {
	t.Helper()
	is(t, what, b, g)
	for k := range g {
		solves(t, what, b, g, unit(len(g), k))
	}
	y := make(list, len(g))
	for k := range y {
		y[k] = big.NewRat(int64(k*k-3), int64(k+1))
	}
	solves(t, what, b, g, y)
}

// put puts a column where it may be, and tells what is there behind that.
func put(t *testing.T, b *basis.Basis, g grid, at int, col list) grid {
	t.Helper()
	next := g.with(at, col)
	want := next.regular()
	if ok := b.Put(at, fractions(col)); ok != want {
		t.Fatalf("P15.1: Put(%d, %.300v) to %.300v is %v", at, col.texts(), g, ok)
	}
	if want {
		return next
	}
	return g
}

func TestNew(t *testing.T) {
	d := dice(1)
	for _, n := range []int{0, 1, 2, 3, 10, 100, 439, 440} {
		b := basis.New(n)
		is(t, fmt.Sprint("New ", n), b, units(n))
		y := d.list(n)
		if got := told(b.Solve(fractions(y))); !slices.Equal(got, y.texts()) {
			t.Errorf("P15.1: of %d units Solve is %.300v, not %.300v", n, got, y.texts())
		}
		if got := told(b.Turned(fractions(y))); !slices.Equal(got, y.texts()) {
			t.Errorf("P15.1: of %d units Turned is %.300v, not %.300v", n, got, y.texts())
		}
	}
	for _, n := range []int{math.MinInt, -440, -1, 441, 442, 1 << 40, math.MaxInt} {
		if b := basis.New(n); b != nil {
			t.Errorf("P15.1: New(%d) is there, of Size %d", n, b.Size())
		}
	}
}

func TestPut(t *testing.T) {
	b, g := basis.New(3), units(3)
	for k, x := range []struct {
		at  int
		col string
		ok  bool
	}{
		{0, "2 1 0", true}, {0, "2 1 0", true}, {1, "4 2 0", false}, {1, "4 2 1", false}, {2, "6 4 1", true},
		{1, "4 2 1", true}, {2, "6 3 1", false}, {0, "0 0 0", false}, {0, "10 6 2", false}, {0, "0 0 1", true},
		{2, "0 0 5", false}, {2, "0 1/2 0", true}, {1, "1 0 0", true}, {1, "0 7 7", false}, {2, "5 -1/3 7", true},
		{2, "5 0 7", false}, {0, "1/7 -1 0", true},
	} {
		if ok := b.Put(x.at, fractions(rats(x.col))); ok != x.ok {
			t.Errorf("P15.1, %d: Put(%d, %s) is %v", k, x.at, x.col, ok)
		}
		if x.ok {
			g = g.with(x.at, rats(x.col))
		}
		same(t, fmt.Sprint("behind ", k), b, g)
	}
}

// What is wrong with a Put leaves all as it is.
func TestWrongPut(t *testing.T) {
	d := dice(2)
	for n := range 5 {
		b, g := basis.New(n), units(n)
		for round := range 3 {
			for _, at := range []int{math.MinInt, -n - 1, -1, n, n + 1, 440, math.MaxInt} {
				if b.Put(at, fractions(d.list(n))) {
					t.Errorf("P15.1: Put at %d of %d is done", at, n)
				}
			}
			for at := -1; at <= n; at++ {
				for _, length := range []int{0, n - 1, n + 1, 2 * n, 441, 100000} {
					if length < 0 || length == n {
						continue
					}
					col := make([]*frac.Frac, length)
					for k := range col {
						col[k] = frac.Of(int64(k + 1))
					}
					if b.Put(at, col) {
						t.Errorf("P15.1: Put of %d numbers at %d of %d is done", length, at, n)
					}
					if x, z := b.Solve(col), b.Turned(col); x != nil || z != nil {
						t.Errorf("P15.1: of %d numbers for %d Solve is %v, Turned %v", length, n, told(x), told(z))
					}
				}
				if b.Put(at, nil) {
					t.Errorf("P15.1: Put of nil at %d of %d is done", at, n)
				}
			}
			for at := range n {
				// Whatever the others can make of themselves is none that stands alone.
				other := noughts(n)
				for range 4 {
					if b.Put(at, fractions(other)) {
						t.Errorf("P15.1: Put(%d, %v) to %v is done", at, other.texts(), g)
					}
					for k := range g {
						f := d.rat()
						for i := range other {
							if k != at {
								other[i] = new(big.Rat).Add(other[i], new(big.Rat).Mul(f, g[k][i]))
							}
						}
					}
				}
			}
			same(t, fmt.Sprint("behind wrong ones, ", n, round), b, g)
			for at := range n {
				g = put(t, b, g, at, d.list(n))
			}
		}
	}
}

// walk puts all columns at all places of a Basis, and goes on from each matrix
// that is new.
func walk(t *testing.T, b *basis.Basis, g grid, cols []list, seen map[string]int) {
	seen[fmt.Sprint(g)] = len(seen)
	for at := range g {
		for _, col := range cols {
			next := *b
			other := put(t, &next, g, at, col)
			if _, ok := seen[fmt.Sprint(other)]; ok {
				continue
			}
			same(t, "a small one", &next, other)
			walk(t, &next, other, cols, seen)
		}
	}
}

func TestPutOfAllSmall(t *testing.T) {
	for _, x := range []struct{ n, from, to, regular int }{{1, -3, 3, 6}, {2, -1, 1, 48}, {2, -2, 2, 496}, {3, 0, 1, 174}} {
		var cols []list
		width := x.to - x.from + 1
		for code := range int(math.Pow(float64(width), float64(x.n))) {
			col := make(list, x.n)
			for k := range col {
				col[k] = big.NewRat(int64(code%width+x.from), 1)
				code /= width
			}
			cols = append(cols, col)
		}
		seen := map[string]int{}
		walk(t, basis.New(x.n), units(x.n), cols, seen)
		if len(seen) != x.regular {
			t.Errorf("P15.1: %d by %d of %d to %d: %d were reached, not %d", x.n, x.n, x.from, x.to, len(seen), x.regular)
		}
	}
}

// col throws a column: any, of few numbers, of one, a unit, or what others make.
func (d *dice) col(g grid) list {
	n := len(g)
	col := noughts(n)
	switch d.below(6) {
	case 0:
		return d.list(n)
	case 1, 2:
		for range 2 + d.below(2) {
			col[d.below(n)] = d.rat()
		}
	case 3:
		col[d.below(n)] = d.rat()
	case 4:
		return unit(n, d.below(n))
	default:
		for range 1 + d.below(3) {
			f, other := d.rat(), g[d.below(n)]
			for i := range col {
				col[i] = new(big.Rat).Add(col[i], new(big.Rat).Mul(f, other[i]))
			}
		}
	}
	return col
}

func TestThrown(t *testing.T) {
	d := dice(3)
	for range 150 {
		n := 1 + d.below(7)
		b, g := basis.New(n), units(n)
		for range 30 {
			g = put(t, b, g, d.below(n), d.col(g))
			if d.below(5) == 0 {
				same(t, "a thrown one", b, g)
			}
			y := d.list(n)
			if d.below(2) == 0 {
				y = d.col(g)
			}
			solves(t, "a thrown one", b, g, y)
		}
		same(t, "a thrown one", b, g)
	}
}

// Of columns of one number, in every order, by way of others.
func TestPermutations(t *testing.T) {
	order := []int{0, 1, 2, 3}
	var orders func(k int)
	orders = func(k int) {
		if k < len(order) {
			for i := k; i < len(order); i++ {
				order[k], order[i] = order[i], order[k]
				orders(k + 1)
				order[k], order[i] = order[i], order[k]
			}
			return
		}
		b, g := basis.New(4), units(4)
		// Of powers and units each mixture stands alone.
		for at := range g {
			g = put(t, b, g, at, rats([]string{"1 1 1 1", "1 2 4 8", "1 3 9 27", "1 4 16 64"}[at]))
		}
		same(t, "powers", b, g)
		for at, row := range order {
			col := noughts(4)
			col[row] = []*big.Rat{big.NewRat(1, 1), big.NewRat(-1, 1), big.NewRat(2, 3), big.NewRat(-7, 2)}[at]
			g = put(t, b, g, at, col)
			same(t, fmt.Sprint("order ", order), b, g)
		}
		if !slices.EqualFunc(g, order, func(col list, row int) bool { return col[row].Sign() != 0 }) {
			t.Errorf("order %v came to %v", order, g)
		}
	}
	orders(0)
}

// A column that is there comes again at its own place, and at no other.
func TestTheSameColumnAgain(t *testing.T) {
	d := dice(4)
	for n := 1; n < 6; n++ {
		b, g := basis.New(n), units(n)
		for range 10 {
			for at := range n {
				for k, col := range g {
					if ok := b.Put(at, fractions(col)); ok != (k == at) {
						t.Errorf("P15.1: Put of column %d at %d is %v", k, at, ok)
					}
				}
			}
			same(t, "the same again", b, g)
			g = put(t, b, g, d.below(n), d.list(n))
		}
	}
}

// Back to the units all is as it was.
func TestBackToUnits(t *testing.T) {
	d := dice(5)
	for n := 1; n < 7; n++ {
		b, g := basis.New(n), units(n)
		for at := range n {
			g = put(t, b, g, at, d.list(n))
		}
		for g.units() < n {
			before := g.units()
			for at := range n {
				for row := range n {
					if !slices.Equal(g[at].texts(), unit(n, at).texts()) {
						g = put(t, b, g, at, unit(n, row))
					}
				}
			}
			if g.units() == before {
				g = put(t, b, g, d.below(n), d.list(n))
			}
		}
		same(t, "units again", b, units(n))
	}
}

// units counts the unit columns that are at their places.
func (g grid) units() int {
	n := 0
	for k, col := range g {
		if slices.Equal(col.texts(), unit(len(g), k).texts()) {
			n++
		}
	}
	return n
}
