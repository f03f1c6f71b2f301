package mat_test

import (
	"fmt"
	"math"
	"math/big"
	"slices"
	"strings"
	"testing"

	"victualler/frac"
	"victualler/mat"
)

// dice throws numbers that are the same in every run.
type dice uint64

func (d *dice) below(n int) int {
	*d = *d*6364136223846793005 + 1442695040888963407
	return int(*d>>33) % n
}

// rat throws a fraction, often 0, now and then with long parts.
func (d *dice) rat() *big.Rat {
	x := big.NewRat(int64(d.below(7)-3), int64(d.below(3)+1))
	if d.below(12) == 0 {
		x.Mul(x, big.NewRat(math.MaxInt64-int64(d.below(9)), int64(d.below(9)+1)))
		x.Mul(x, x)
	}
	return x
}

// plain is a matrix as the chapter means it.
type plain struct {
	rows, cols int
	at         [][]*big.Rat
}

// grid makes a plain matrix of what is told of each place.
func grid(rows, cols int, tell func(i, k int) *big.Rat) plain {
	p := plain{rows, cols, make([][]*big.Rat, rows)}
	for i := range rows {
		for k := range cols {
			p.at[i] = append(p.at[i], tell(i, k))
		}
	}
	return p
}

func (d *dice) grid(rows, cols int) plain {
	return grid(rows, cols, func(int, int) *big.Rat { return d.rat() })
}

// grids makes all matrices of a size whose numbers are 0 to n-1, less one.
func grids(rows, cols, n int) []plain {
	ps := []plain{}
	for code := range int(math.Pow(float64(n), float64(rows*cols))) {
		ps = append(ps, grid(rows, cols, func(int, int) *big.Rat {
			x := big.NewRat(int64(code%n-1), 1)
			code /= n
			return x
		}))
	}
	return ps
}

func units(n int) plain {
	return grid(n, n, func(i, k int) *big.Rat {
		if i == k {
			return big.NewRat(1, 1)
		}
		return new(big.Rat)
	})
}

func (p plain) texts() [][]string {
	rows := make([][]string, p.rows)
	for i, row := range p.at {
		rows[i] = texts(row)
	}
	return rows
}

func (p plain) String() string { return fmt.Sprintf("%d by %d %.300v", p.rows, p.cols, p.texts()) }

func (p plain) turn() plain {
	return grid(p.cols, p.rows, func(i, k int) *big.Rat { return p.at[k][i] })
}

func (p plain) mul(q plain) plain {
	return grid(p.rows, q.cols, func(i, k int) *big.Rat {
		sum := new(big.Rat)
		for j := range p.cols {
			sum.Add(sum, new(big.Rat).Mul(p.at[i][j], q.at[j][k]))
		}
		return sum
	})
}

// beside is p with one column more.
func (p plain) beside(b []*big.Rat) plain {
	return grid(p.rows, p.cols+1, func(i, k int) *big.Rat {
		if k == p.cols {
			return b[i]
		}
		return p.at[i][k]
	})
}

// rank takes one column behind the other.
func (p plain) rank() int {
	p = grid(p.rows, p.cols, func(i, k int) *big.Rat { return new(big.Rat).Set(p.at[i][k]) })
	rank := 0
	for k := range p.cols {
		at := slices.IndexFunc(p.at[rank:], func(row []*big.Rat) bool { return row[k].Sign() != 0 })
		if at < 0 {
			continue
		}
		p.at[rank], p.at[rank+at] = p.at[rank+at], p.at[rank]
		top := p.at[rank]
		for _, row := range p.at[rank+1:] {
			f := new(big.Rat).Quo(row[k], top[k])
			for j := range row {
				row[j].Sub(row[j], new(big.Rat).Mul(f, top[j]))
			}
		}
		rank++
	}
	return rank
}

func texts(row []*big.Rat) []string {
	ss := make([]string, len(row))
	for k, x := range row {
		ss[k] = x.RatString()
	}
	return ss
}

// of makes the matrix of p.
func of(t *testing.T, p plain) *mat.Mat {
	t.Helper()
	if p.rows == 0 && p.cols > 0 {
		// No list of rows tells these columns.
		return of(t, p.turn()).Turn()
	}
	m, ok := mat.New(p.texts())
	if !ok || m == nil {
		t.Fatalf("P6.1: New of %v is nothing", p)
	}
	return m
}

func get(t *testing.T, s string) *frac.Frac {
	t.Helper()
	x, ok := frac.Get(s)
	if !ok {
		t.Fatalf("no fraction: %.40s", s)
	}
	return x
}

// numbers are the fractions of texts.
func numbers(t *testing.T, ss ...string) []*frac.Frac {
	t.Helper()
	var l []*frac.Frac
	for _, s := range ss {
		l = append(l, get(t, s))
	}
	return l
}

func told(x []*frac.Frac) []string {
	ss := make([]string, len(x))
	for k, y := range x {
		ss[k] = "nil"
		if y != nil {
			ss[k] = y.Text()
		}
	}
	return ss
}

// same holds what a matrix tells against the plain one: Size, At, and At beyond.
func same(t *testing.T, what string, m *mat.Mat, want plain) {
	t.Helper()
	if m == nil {
		t.Errorf("P6.1: %.200s is nil", what)
		return
	}
	rows, cols := m.Size()
	if rows != want.rows || cols != want.cols {
		t.Errorf("P6.1: %.200s is %d by %d, not %v", what, rows, cols, want)
		return
	}
	for i := range rows {
		for k := range cols {
			if x := m.At(i, k); x == nil || x.Text() != want.at[i][k].RatString() {
				t.Errorf("P6.1: At(%d, %d) of %.200s is %.60s, not %.60s", i, k, what, x.Text(), want.at[i][k].RatString())
				return
			}
		}
	}
	for _, at := range [][2]int{{-1, 0}, {0, -1}, {rows, 0}, {0, cols}, {rows, cols}, {rows, cols - 1}, {rows - 1, cols}, {-1, -1}} {
		if x := m.At(at[0], at[1]); x != nil {
			t.Errorf("P6.1: At%v of %.200s is %.60s", at, what, x.Text())
		}
	}
}

// nothing holds that there is no matrix of rows.
func nothing(t *testing.T, what string, rows [][]string) {
	t.Helper()
	if m, ok := mat.New(rows); ok || m != nil {
		t.Errorf("P6.1, P0.2: New of %.60s is a matrix, %v", what, ok)
	}
}

func TestNew(t *testing.T) {
	d := dice(1)
	for rows := range 6 {
		for cols := range 6 {
			p := d.grid(rows, cols)
			same(t, fmt.Sprint("New of ", p), of(t, p), p)
		}
	}
}

func TestNewAtItsLimits(t *testing.T) {
	d := dice(2)
	for _, size := range [][2]int{{440, 440}, {440, 1}, {1, 440}, {440, 0}, {439, 3}, {3, 439}, {440, 7}, {7, 440}} {
		p := d.grid(size[0], size[1])
		same(t, fmt.Sprint("New, ", size), of(t, p), p)
	}
	for _, size := range [][2]int{{441, 0}, {441, 1}, {1, 441}, {441, 440}, {440, 441}, {441, 441}, {2, 1000}, {1000, 2}} {
		nothing(t, fmt.Sprint(size), d.grid(size[0], size[1]).texts())
	}
	nothing(t, "a long list", make([][]string, 1<<20))
	nothing(t, "a long row", [][]string{make([]string, 1<<20)})
	nothing(t, "441 empty texts", [][]string{make([]string, 441)})
}

// Each row counts, wherever the one of another length stands.
func TestNewOfRowsThatAreNotAlike(t *testing.T) {
	for n := 2; n < 5; n++ {
		for cols := range 4 {
			for at := range n {
				for other := range 5 {
					rows := make([][]string, n)
					for i := range rows {
						rows[i] = slices.Repeat([]string{"1"}, cols)
					}
					rows[at] = slices.Repeat([]string{"1"}, other)
					if m, ok := mat.New(rows); ok != (other == cols) || ok != (m != nil) {
						t.Errorf("P6.1: New(%v) is %v", rows, ok)
					}
				}
			}
		}
	}
	nothing(t, "rows of 2, 1, 3", [][]string{{"1", "2"}, {"3"}, {"4", "5", "6"}})
	nothing(t, "a row of 441 behind", [][]string{{"1"}, make([]string, 441)})
}

// A wrong text counts wherever it stands.
func TestNewOfWrongTexts(t *testing.T) {
	long := strings.Repeat("9", 2001)
	for _, s := range []string{"", " ", "x", "-", "+1", "01", "-0", "0/1", "2/4", "1/1", "1/0", "0.5", "1.", "1e3", "1 ", " 1", "1\n", "1/-2", "inf", "\xff", "1\x00", long, "-" + long, "1/" + long} {
		nothing(t, s, [][]string{{s}})
		for i := range 3 {
			for k := range 2 {
				rows := [][]string{{"1", "-1/2"}, {"0", "3"}, {"7", "7"}}
				rows[i][k] = s
				nothing(t, s, rows)
			}
		}
	}
}

func TestNewAtTheLimitOfTexts(t *testing.T) {
	nines := strings.Repeat("9", 2000)
	ss := []string{nines, "-" + nines, "1/" + nines, nines[1:] + "8/" + nines}
	m, ok := mat.New([][]string{ss})
	if !ok {
		t.Fatal("P6.1: New of texts of 2000 digits is nothing")
	}
	for k, s := range ss {
		if m.At(0, k).Text() != s {
			t.Errorf("P6.1: At(0, %d) of a long text is another", k)
		}
	}
	// What comes of them may be longer.
	x, _ := new(big.Rat).SetString(nines)
	p := grid(1, 1, func(int, int) *big.Rat { return x })
	square, _ := of(t, p).Mul(of(t, p))
	same(t, "a long square", square, p.mul(p))
	turned, _ := square.Inverse()
	same(t, "its inverse", turned, grid(1, 1, func(int, int) *big.Rat { return new(big.Rat).Inv(p.mul(p).at[0][0]) }))
}

func TestNewOfNothing(t *testing.T) {
	for _, rows := range [][][]string{nil, {}} {
		m, ok := mat.New(rows)
		if !ok {
			t.Error("P6.1, P0.4: New of no rows is nothing")
		}
		same(t, "New of no rows", m, plain{})
	}
	for _, rows := range [][][]string{{nil}, {{}}, {nil, {}}, {{}, nil, {}}} {
		m, ok := mat.New(rows)
		if !ok {
			t.Errorf("P6.1, P0.4: New(%v) is nothing", rows)
		}
		same(t, "New of no columns", m, plain{rows: len(rows)})
	}
}

func TestAtBeyond(t *testing.T) {
	d := dice(3)
	for _, size := range [][2]int{{0, 0}, {0, 3}, {3, 0}, {1, 1}, {2, 3}, {3, 2}} {
		m := of(t, d.grid(size[0], size[1]))
		far := []int{math.MinInt, math.MinInt + 1, -size[1] - 1, -size[0] - 1, -2, -1, 3, 4, 440, 1 << 32, 1<<32 + 1, 1 << 62, 1 << 63 / 3, math.MaxInt}
		for _, i := range far {
			for _, k := range append(slices.Clone(far), 0, 1) {
				if x, y := m.At(i, k), m.At(k, i); x != nil || y != nil {
					t.Errorf("P6.1: At(%d, %d) of %v is something", i, k, size)
				}
			}
		}
	}
}

func TestMulAndTimes(t *testing.T) {
	d := dice(4)
	for rows := range 5 {
		for inner := range 5 {
			for cols := range 5 {
				p, q := d.grid(rows, inner), d.grid(inner, cols)
				m, w := of(t, p), of(t, q)
				what := fmt.Sprint(p, " by ", q)
				product, ok := m.Mul(w)
				if !ok {
					t.Fatalf("P6.1: %s is nothing", what)
				}
				same(t, what, product, p.mul(q))
				for k := range cols {
					x := texts(q.turn().at[k])
					y, ok := m.Times(numbers(t, x...))
					if !ok || !slices.Equal(told(y), texts(p.mul(q).turn().at[k])) {
						t.Errorf("P6.1: Times, %.200v by %.200v, is %.200v, %v", p, x, told(y), ok)
					}
				}
				same(t, "left behind Mul", m, p)
				same(t, "right behind Mul", w, q)
			}
		}
	}
}

func TestMulOfSizesThatDoNotFit(t *testing.T) {
	d := dice(5)
	for code := range 4 * 4 * 4 * 4 {
		p, q := d.grid(code%4, code/4%4), d.grid(code/16%4, code/64)
		product, ok := of(t, p).Mul(of(t, q))
		if ok != (p.cols == q.rows) || ok != (product != nil) {
			t.Errorf("P6.1, P0.2: %v by %v is %v", p, q, ok)
		}
	}
}

func TestTimesOfSizesThatDoNotFit(t *testing.T) {
	d := dice(6)
	for rows := range 4 {
		for cols := range 4 {
			for n := range 6 {
				y, ok := of(t, d.grid(rows, cols)).Times(slices.Repeat(numbers(t, "1"), n))
				if ok != (n == cols) || ok && len(y) != rows || !ok && y != nil {
					t.Errorf("P6.1, P0.2: %d by %d Times %d numbers is %v, %v", rows, cols, n, told(y), ok)
				}
			}
		}
	}
}

func TestMulAtItsLimits(t *testing.T) {
	d := dice(7)
	tall, wide := d.grid(440, 2), d.grid(2, 440)
	for _, pair := range [][2]plain{{tall, wide}, {wide, tall}, {d.grid(440, 0), d.grid(0, 440)}, {d.grid(0, 440), d.grid(440, 0)}, {d.grid(1, 440), d.grid(440, 1)}} {
		product, ok := of(t, pair[0]).Mul(of(t, pair[1]))
		if !ok {
			t.Error("P6.1: at its limits Mul is nothing")
		}
		same(t, "Mul at its limits", product, pair[0].mul(pair[1]))
	}
	same(t, "Turn at its limits", of(t, tall).Turn(), tall.turn())
}

// What comes of cancelled sums is 0 and counts as 0.
func TestMulToNoughts(t *testing.T) {
	m, _ := mat.New([][]string{{"1", "-1/18446744073709551617"}, {"-2", "2/18446744073709551617"}})
	w, _ := mat.New([][]string{{"1/3", "1"}, {"18446744073709551617/3", "18446744073709551617"}})
	product, ok := m.Mul(w)
	if !ok || product.Rank() != 0 {
		t.Error("P6.1: a product of noughts has a Rank")
	}
	same(t, "a product of noughts", product, grid(2, 2, func(int, int) *big.Rat { return new(big.Rat) }))
	if y, ok := m.Times(numbers(t, "1/3", "18446744073709551617/3")); !ok || !slices.Equal(told(y), []string{"0", "0"}) {
		t.Errorf("P6.1: Times to noughts is %v", told(y))
	}
}

func TestTurn(t *testing.T) {
	d := dice(8)
	for rows := range 6 {
		for cols := range 6 {
			p := d.grid(rows, cols)
			m := of(t, p)
			same(t, fmt.Sprint("Turn of ", p), m.Turn(), p.turn())
			same(t, fmt.Sprint("Turn twice of ", p), m.Turn().Turn(), p)
			same(t, "a matrix behind Turn", m, p)
		}
	}
}

func TestRankOfAllSmall(t *testing.T) {
	for _, size := range [][3]int{{0, 0, 3}, {0, 2, 3}, {2, 0, 3}, {1, 1, 5}, {1, 3, 4}, {3, 1, 4}, {2, 2, 5}, {2, 3, 3}, {3, 2, 3}, {3, 3, 3}} {
		for _, p := range grids(size[0], size[1], size[2]) {
			if got := of(t, p).Rank(); got != p.rank() {
				t.Errorf("P6.1: Rank of %v is %d", p, got)
			}
		}
	}
}

// A product of thin ones has no greater rank than they have.
func TestRankOfProducts(t *testing.T) {
	d := dice(9)
	for range 150 {
		rows, cols := 1+d.below(7), 1+d.below(7)
		inner := d.below(min(rows, cols) + 1)
		p := d.grid(rows, inner).mul(d.grid(inner, cols))
		m := of(t, p)
		if got, want := m.Rank(), p.rank(); got != want || m.Turn().Rank() != want {
			t.Errorf("P6.1: Rank of %v is %d, turned %d, not %d", p, got, m.Turn().Rank(), want)
		}
		same(t, "a matrix behind Rank", m, p)
	}
}

func TestRankAtItsLimits(t *testing.T) {
	one := func(i, k int) *big.Rat { return big.NewRat(int64((i+1)*(k+2)), 3) }
	for _, c := range []struct {
		p    plain
		want int
	}{
		{grid(440, 440, one), 1}, {grid(440, 440, func(int, int) *big.Rat { return new(big.Rat) }), 0}, {units(440), 440},
		{grid(440, 3, func(i, k int) *big.Rat { return big.NewRat(int64(math.Pow(float64(i), float64(k))), 1) }), 3},
		{grid(440, 0, one), 0}, {grid(0, 440, one), 0},
	} {
		if got := of(t, c.p).Rank(); got != c.want {
			t.Errorf("P6.1: Rank of %d by %d is %d, not %d", c.p.rows, c.p.cols, got, c.want)
		}
	}
}

// inverse holds Inverse against p: it has one if its rank is full, and there
// is just one that gives the units, on either side.
func inverse(t *testing.T, p plain) {
	t.Helper()
	m := of(t, p)
	inv, ok := m.Inverse()
	if want := p.rows == p.cols && p.rank() == p.rows; ok != want || ok != (inv != nil) {
		t.Errorf("P6.1, P0.2: Inverse of %v is %v", p, ok)
		return
	}
	same(t, "a matrix behind Inverse", m, p)
	if !ok {
		return
	}
	if rows, cols := inv.Size(); rows != p.rows || cols != p.rows {
		t.Errorf("P6.1: the Inverse of %v is %d by %d", p, rows, cols)
		return
	}
	q := grid(p.rows, p.rows, func(i, k int) *big.Rat {
		x, _ := new(big.Rat).SetString(inv.At(i, k).Text())
		return x
	})
	same(t, "the inverse of "+p.String(), inv, q)
	if got := p.mul(q); !slices.EqualFunc(got.texts(), units(p.rows).texts(), slices.Equal) {
		t.Errorf("P6.1: %v by its Inverse is %v", p, got)
	}
}

func TestInverseOfAllSmall(t *testing.T) {
	for _, size := range [][3]int{{0, 0, 3}, {1, 1, 5}, {2, 2, 5}, {3, 3, 3}, {1, 2, 3}, {2, 1, 3}, {0, 2, 3}, {2, 0, 3}, {0, 1, 3}, {1, 0, 3}} {
		for _, p := range grids(size[0], size[1], size[2]) {
			inverse(t, p)
		}
	}
}

func TestInverseOfThrown(t *testing.T) {
	d := dice(10)
	for range 150 {
		n := 1 + d.below(7)
		inverse(t, d.grid(n, n))
		inverse(t, d.grid(n, 1+d.below(7)))
		inner := d.below(n + 1)
		inverse(t, d.grid(n, inner).mul(d.grid(inner, n)))
	}
}

// Of permutations each, so that every order of rows comes.
func TestInverseOfPermutations(t *testing.T) {
	order := []int{0, 1, 2, 3}
	var orders func(k int)
	orders = func(k int) {
		if k == len(order) {
			p := grid(4, 4, func(i, k int) *big.Rat {
				if order[i] == k {
					return big.NewRat(int64(i+1), 3)
				}
				return new(big.Rat)
			})
			inverse(t, p)
			p.at[order[1]] = p.at[order[0]]
			inverse(t, p)
			return
		}
		for i := k; i < len(order); i++ {
			order[k], order[i] = order[i], order[k]
			orders(k + 1)
			order[k], order[i] = order[i], order[k]
		}
	}
	orders(0)
}

// Hilbert's matrices have great inverses.
func TestInverseOfLongParts(t *testing.T) {
	for _, n := range []int{5, 12} {
		p := grid(n, n, func(i, k int) *big.Rat { return big.NewRat(1, int64(i+k+1)) })
		inverse(t, p)
		p.at[n-1] = p.at[0]
		inverse(t, p)
	}
}

func TestInverseAtItsLimits(t *testing.T) {
	const n = 440
	// Two numbers a row, not on the diagonal: the inverse has half of its places
	// full.
	p := grid(n, n, func(i, k int) *big.Rat {
		switch (i + 7) % n {
		case k:
			return big.NewRat(1, 1)
		case k + 1:
			return big.NewRat(-1, 1)
		}
		return new(big.Rat)
	})
	inv, ok := of(t, p).Inverse()
	if !ok {
		t.Fatal("P6.1: of 440 by 440 there is no Inverse")
	}
	for _, k := range []int{0, 1, 200, 438, 439} {
		x := make([]*frac.Frac, n)
		for i := range x {
			x[i] = inv.At(i, k)
		}
		y, ok := of(t, p).Times(x)
		if !ok || !slices.Equal(told(y), texts(units(n).at[k])) {
			t.Errorf("P6.1: column %d of the Inverse of 440 by 440", k)
		}
	}
	p.at[439] = p.at[438]
	if inv, ok := of(t, p).Inverse(); ok || inv != nil {
		t.Error("P6.1: 440 by 440 with a row twice has an Inverse")
	}
}

// solve holds Solve against p and b: there is just one x if the rank is that
// of the columns and b does not raise it.
func solve(t *testing.T, p plain, b []*big.Rat) {
	t.Helper()
	m := of(t, p)
	right := numbers(t, texts(b)...)
	x, ok := m.Solve(right)
	if want := p.rank() == p.cols && p.beside(b).rank() == p.cols; ok != want || !ok && x != nil {
		t.Errorf("P6.1, P0.2: Solve of %v and %.200v is %.200v, %v", p, texts(b), told(x), ok)
		return
	}
	if !slices.Equal(told(right), texts(b)) {
		t.Errorf("P0.3: Solve made %.200v of %.200v", told(right), texts(b))
	}
	same(t, "a matrix behind Solve", m, p)
	if !ok {
		return
	}
	if len(x) != p.cols || slices.Contains(x, nil) {
		t.Errorf("P6.1: Solve of %v and %.200v is %.200v", p, texts(b), told(x))
		return
	}
	column := grid(p.cols, 1, func(i, _ int) *big.Rat {
		y, _ := new(big.Rat).SetString(x[i].Text())
		return y
	})
	if !slices.Equal(texts(p.mul(column).beside(b).turn().at[0]), texts(b)) {
		t.Errorf("P6.1: Solve of %v and %.200v is %.200v", p, texts(b), told(x))
	}
}

func TestSolveOfAllSmall(t *testing.T) {
	for _, size := range [][3]int{{1, 1, 4}, {1, 2, 4}, {2, 1, 4}, {2, 2, 4}, {3, 1, 3}, {3, 2, 3}, {2, 3, 3}, {1, 0, 3}, {2, 0, 3}, {0, 0, 3}, {0, 1, 3}, {0, 3, 3}} {
		// The last column is the right side.
		for _, both := range grids(size[0], size[1]+1, size[2]) {
			var b []*big.Rat
			for _, row := range both.at {
				b = append(b, row[size[1]])
			}
			solve(t, grid(size[0], size[1], func(i, k int) *big.Rat { return both.at[i][k] }), b)
		}
	}
}

func TestSolveOfThrown(t *testing.T) {
	d := dice(11)
	for range 200 {
		rows, cols := d.below(8), d.below(6)
		p, x := d.grid(rows, cols), d.grid(cols, 1)
		b := p.mul(x).beside(make([]*big.Rat, rows)).turn().at[0]
		// With an answer at least, with a number changed, and anything.
		solve(t, p, b)
		if rows > 0 {
			at := d.below(rows)
			b[at] = new(big.Rat).Add(b[at], big.NewRat(1, 3))
			solve(t, p, b)
		}
		solve(t, p, d.grid(1, rows).at[0])
	}
}

// Rows that come again, at any place, tell the same or nothing.
func TestSolveOfMoreRowsThanColumns(t *testing.T) {
	d := dice(12)
	for range 100 {
		n := 1 + d.below(4)
		p, x := d.grid(n, n), d.grid(n, 1)
		for range 1 + d.below(4) {
			again := d.grid(1, n).mul(plain{n, n, p.at[:n]}).at[0]
			p.at = slices.Insert(p.at, d.below(len(p.at)+1), again)
			p.rows++
		}
		b := p.mul(x).beside(make([]*big.Rat, p.rows)).turn().at[0]
		solve(t, p, b)
		for at := range b {
			other := slices.Clone(b)
			other[at] = new(big.Rat).Sub(b[at], big.NewRat(1, 1<<62))
			solve(t, p, other)
		}
	}
}

func TestSolveOfSizesThatDoNotFit(t *testing.T) {
	for rows := range 4 {
		for cols := range 4 {
			m := of(t, grid(rows, cols, func(i, k int) *big.Rat { return units(4).at[i][k] }))
			for n := range 6 {
				x, ok := m.Solve(make([]*frac.Frac, n))
				if want := n == rows && cols <= rows; ok != want || ok && len(x) != cols || !ok && x != nil {
					t.Errorf("P6.1, P0.2: %d by %d Solve of %d numbers is %v, %v", rows, cols, n, told(x), ok)
				}
			}
		}
	}
}

func TestSolveOfNoColumns(t *testing.T) {
	for n := range 5 {
		m := of(t, plain{rows: n, at: make([][]*big.Rat, n)})
		b := make([]*frac.Frac, n)
		for k := range b {
			b[k] = frac.Of(0)
		}
		if x, ok := m.Solve(b); !ok || len(x) != 0 {
			t.Errorf("P6.1: of no columns Solve of %d noughts is %v, %v", n, told(x), ok)
		}
		for k := range b {
			for _, s := range []string{"1", "-1/18446744073709551617"} {
				other := slices.Clone(b)
				other[k] = get(t, s)
				if x, ok := m.Solve(other); ok || x != nil {
					t.Errorf("P6.1: of no columns Solve of %v is %v, %v", told(other), told(x), ok)
				}
			}
		}
	}
}

func TestSolveAtItsLimits(t *testing.T) {
	p := grid(440, 3, func(i, k int) *big.Rat { return big.NewRat(int64(i*i%7-k), int64(k+1)) })
	x := grid(3, 1, func(i, _ int) *big.Rat { return big.NewRat(int64(i-1), 7) })
	b := p.mul(x).beside(make([]*big.Rat, 440)).turn().at[0]
	solve(t, p, b)
	b[439] = new(big.Rat).Add(b[439], big.NewRat(1, 1))
	solve(t, p, b)
	want := make([]string, 440)
	for k := range want {
		want[k] = fmt.Sprint(k - 200)
	}
	if got, ok := of(t, units(440)).Solve(numbers(t, want...)); !ok || !slices.Equal(told(got), want) {
		t.Error("P6.1: Solve of 440 units")
	}
	if got, ok := of(t, grid(1, 440, func(int, int) *big.Rat { return big.NewRat(1, 1) })).Solve(numbers(t, "1")); ok || got != nil {
		t.Error("P6.1: Solve of one row of 440 columns")
	}
}

// A nil number is 0, in Times and in Solve.
func TestNilNumbers(t *testing.T) {
	m, _ := mat.New([][]string{{"2", "1"}, {"1", "1"}})
	for _, nought := range []*frac.Frac{nil, frac.Of(0)} {
		if y, ok := m.Times([]*frac.Frac{nought, frac.Of(3)}); !ok || !slices.Equal(told(y), []string{"3", "3"}) {
			t.Errorf("P0.1: Times of a nil number is %v, %v", told(y), ok)
		}
		if y, ok := m.Times([]*frac.Frac{nought, nought}); !ok || !slices.Equal(told(y), []string{"0", "0"}) {
			t.Errorf("P0.1: Times of nil numbers is %v, %v", told(y), ok)
		}
		if x, ok := m.Solve([]*frac.Frac{nought, frac.Of(3)}); !ok || !slices.Equal(told(x), []string{"-3", "6"}) {
			t.Errorf("P0.1: Solve of a nil number is %v, %v", told(x), ok)
		}
		if x, ok := m.Solve([]*frac.Frac{nought, nought}); !ok || !slices.Equal(told(x), []string{"0", "0"}) {
			t.Errorf("P0.1: Solve of nil numbers is %v, %v", told(x), ok)
		}
	}
}

func TestNilIsOfNothing(t *testing.T) {
	var none *mat.Mat
	if rows, cols := none.Size(); rows != 0 || cols != 0 || none.Rank() != 0 {
		t.Errorf("P6.1: nil is %d by %d, of Rank %d", rows, cols, none.Rank())
	}
	for _, at := range []int{math.MinInt, -1, 0, 1, math.MaxInt} {
		if none.At(at, 0) != nil || none.At(0, at) != nil {
			t.Errorf("P6.1: nil has something at %d", at)
		}
	}
	same(t, "Turn of nil", none.Turn(), plain{})
	empty, wide, tall := of(t, plain{}), of(t, plain{cols: 3}), of(t, plain{3, 0, make([][]*big.Rat, 3)})
	for k, m := range []*mat.Mat{none, empty, none.Turn()} {
		inv, ok := m.Inverse()
		if !ok {
			t.Errorf("P6.1, %d: 0 by 0 has no Inverse", k)
		}
		same(t, "the Inverse of 0 by 0", inv, plain{})
		for _, b := range [][]*frac.Frac{nil, {}} {
			x, ok := m.Solve(b)
			y, okToo := m.Times(b)
			if !ok || len(x) != 0 || !okToo || len(y) != 0 {
				t.Errorf("P6.1, P0.4, %d: of 0 by 0 Solve is %v, %v, Times %v, %v", k, told(x), ok, told(y), okToo)
			}
		}
		for _, b := range [][]*frac.Frac{{nil}, numbers(t, "0"), numbers(t, "1", "2")} {
			x, ok := m.Solve(b)
			y, okToo := m.Times(b)
			if ok || x != nil || okToo || y != nil {
				t.Errorf("P6.1, %d: of 0 by 0 and %v Solve is %v, Times %v", k, told(b), told(x), told(y))
			}
		}
		for _, w := range []*mat.Mat{none, empty} {
			product, ok := m.Mul(w)
			if !ok {
				t.Errorf("P6.1, %d: 0 by 0 by 0 by 0 is nothing", k)
			}
			same(t, "0 by 0 by itself", product, plain{})
		}
		product, ok := m.Mul(wide)
		if !ok {
			t.Errorf("P6.1, %d: 0 by 0 by 0 by 3 is nothing", k)
		}
		same(t, "0 by 0 by 0 by 3", product, plain{cols: 3})
		product, ok = tall.Mul(m)
		if !ok {
			t.Errorf("P6.1, %d: 3 by 0 by 0 by 0 is nothing", k)
		}
		same(t, "3 by 0 by 0 by 0", product, plain{3, 0, make([][]*big.Rat, 3)})
		left, okLeft := m.Mul(tall)
		right, okRight := wide.Mul(m)
		if okLeft || left != nil || okRight || right != nil {
			t.Errorf("P6.1, %d: 0 by 0 fits 3 rows, or 3 columns", k)
		}
	}
}

func TestListsAreNeitherChangedNorKept(t *testing.T) {
	room := [][]string{{"1", "2", "spare"}, {"3", "4", "room"}, {"5", "6"}, {"x"}}
	rows := [][]string{room[0][:2], room[1][:2]}
	p := grid(2, 2, func(i, k int) *big.Rat { return big.NewRat(int64(2*i+k+1), 1) })
	m, ok := mat.New(rows)
	if !ok || !slices.EqualFunc(rows, p.texts(), slices.Equal) || room[0][2] != "spare" || room[1][2] != "room" {
		t.Errorf("P0.3: New made %v of its list", room)
	}
	rows[0][0], rows[1] = "77", nil
	same(t, "a matrix whose list was changed", m, p)

	for what, call := range map[string]func([]*frac.Frac) ([]*frac.Frac, bool){"Times": m.Times, "Solve": m.Solve} {
		full := numbers(t, "1/2", "18446744073709551617", "5", "6")
		before := slices.Clone(full)
		first, ok := call(full[:2])
		if !ok || !slices.Equal(full, before) || !slices.Equal(told(full), []string{"1/2", "18446744073709551617", "5", "6"}) {
			t.Errorf("P0.3: %s made %v of its list", what, told(full))
		}
		want := told(first)
		*full[0], *full[1] = *frac.Of(8), *frac.Of(9)
		full[0], full[1] = nil, nil
		if !slices.Equal(told(first), want) {
			t.Errorf("P0.3: with its list %s's answer changed to %v", what, told(first))
		}
		again, _ := call(numbers(t, "1/2", "18446744073709551617"))
		if !slices.Equal(told(again), want) {
			t.Errorf("P0.3: %s is %v behind another list", what, told(again))
		}
	}
	same(t, "a matrix behind its calls", m, p)
}

// write writes into all that a matrix tells, spare room too.
func write(t *testing.T, m *mat.Mat) {
	rows, cols := m.Size()
	for i := range rows {
		for k := range cols {
			*m.At(i, k) = *frac.Of(77)
		}
	}
	for _, n := range []int{rows, cols} {
		x, _ := m.Times(slices.Repeat(numbers(t, "1"), n))
		y, _ := m.Solve(slices.Repeat(numbers(t, "1"), n))
		for _, l := range [][]*frac.Frac{x, y} {
			for k, z := range l {
				*z = *frac.Of(77)
				l[k] = nil
			}
			for k := range l[:cap(l)] {
				l[:cap(l)][k] = frac.Of(77)
			}
		}
	}
}

func TestAnswersAreNewMemory(t *testing.T) {
	p := grid(2, 2, func(i, k int) *big.Rat { return big.NewRat(int64(i+k), 1) })
	p.at[1][1], _ = new(big.Rat).SetString("18446744073709551617/2")
	m, one := of(t, p), of(t, units(2))
	square, _ := m.Mul(m)
	left, _ := one.Mul(m)
	right, _ := m.Mul(one)
	inv, _ := one.Inverse()
	back, _ := m.Inverse()
	back, _ = back.Inverse()
	made := []*mat.Mat{m, one, m.Turn(), m.Turn(), m.Turn().Turn(), square, left, right, inv, back}
	want := []plain{p, units(2), p.turn(), p.turn(), p, p.mul(p), p, p, units(2), p}
	for _, w := range made {
		write(t, w)
	}
	for k, w := range made {
		same(t, fmt.Sprint("matrix ", k), w, want[k])
	}
	// To write over one is to change no other.
	for k, w := range made {
		*w = mat.Mat{}
		for i := k + 1; i < len(made); i++ {
			same(t, fmt.Sprint("matrix ", i, " behind ", k), made[i], want[i])
		}
	}
}

// Where the numbers are those that were handed in, or all are 0, each is
// still another *Frac.
func TestNumbersAreNewMemory(t *testing.T) {
	one, _ := mat.New([][]string{{"1", "0"}, {"0", "1"}})
	none, _ := mat.New([][]string{{"0", "0"}, {"0", "0"}, {"0", "0"}})
	for _, s := range []string{"0", "5", "-18446744073709551617/3"} {
		b := numbers(t, s, s)
		x, _ := one.Solve(b)
		y, _ := one.Times(b)
		z, _ := none.Times(b)
		again, _ := none.Times(b)
		list := slices.Concat(b, x, y, z, again, []*frac.Frac{one.At(0, 1), one.At(1, 0), none.At(0, 0), none.At(0, 0)})
		for k := range list {
			before := told(list)
			*list[k] = *frac.Of(77)
			before[k] = "77"
			if !slices.Equal(told(list), before) {
				t.Errorf("P0.3: to write over number %d of %v changed others: %v", k, before, told(list))
			}
		}
	}
	same(t, "units behind all", one, units(2))
	same(t, "noughts behind all", none, grid(3, 2, func(int, int) *big.Rat { return new(big.Rat) }))
}

func TestTheSameEachTime(t *testing.T) {
	d := dice(13)
	p := d.grid(5, 5)
	m := of(t, p)
	b := texts(d.grid(1, 5).at[0])
	inv, ok := m.Inverse()
	x, okToo := m.Solve(numbers(t, b...))
	if !ok || !okToo {
		t.Fatal("the matrix that was thrown has no Inverse")
	}
	for range 10 {
		again := of(t, p)
		other, _ := again.Inverse()
		same(t, "the same Inverse", other, grid(5, 5, func(i, k int) *big.Rat {
			y, _ := new(big.Rat).SetString(inv.At(i, k).Text())
			return y
		}))
		for _, w := range []*mat.Mat{m, again} {
			if y, _ := w.Solve(numbers(t, b...)); !slices.Equal(told(y), told(x)) || w.Rank() != 5 {
				t.Fatal("P0.5: the same arguments have other answers")
			}
		}
	}
}

func FuzzSolve(f *testing.F) {
	f.Add("1", "2", "3", "4", "5", "6")
	f.Add("1", "2", "2", "4", "1", "2")
	f.Add("0", "1/2", "-3", "0", "0", "x")
	f.Fuzz(func(t *testing.T, a, b, c, d, e, g string) {
		rows, all := [][]string{{a, b}, {c, d}}, true
		var right []*frac.Frac
		for k, s := range []string{a, b, c, d, e, g} {
			x, ok := frac.Get(s)
			right = append(right, x)
			all = all && (ok || k > 3)
		}
		m, ok := mat.New(rows)
		if ok != all || ok != (m != nil) {
			t.Fatalf("P6.1: New(%q) is %v", rows, ok)
		}
		inv, invertible := m.Inverse()
		x, solved := m.Solve(right[4:])
		if ok && (invertible != (m.Rank() == 2) || invertible != solved) {
			t.Fatalf("P6.1: %q: Rank %d, Inverse %v, Solve %v", rows, m.Rank(), invertible, solved)
		}
		if !ok || !solved {
			return
		}
		y, _ := m.Times(x)
		z, _ := inv.Times(right[4:])
		if y[0].Cmp(right[4]) != 0 || y[1].Cmp(right[5]) != 0 || !slices.Equal(told(z), told(x)) {
			t.Fatalf("P6.1: Solve of %q and %q is %q", rows, told(right[4:]), told(x))
		}
	})
}
