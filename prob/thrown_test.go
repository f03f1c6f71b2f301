package prob_test

import (
	"fmt"
	"math/big"
	"slices"
	"strings"
	"testing"

	"victualler/api"
	"victualler/prob"
)

// dice throws numbers that are the same in every run.
type dice uint64

func (d *dice) below(n int) int {
	*d = *d*6364136223846793005 + 1442695040888963407
	return int(*d>>33) % n
}

func (d *dice) of(texts ...string) string { return texts[d.below(len(texts))] }

// rarely is true of one throw of so many.
func (d *dice) rarely(n int) bool { return d.below(n) == 0 }

// number throws small ones, most of them whole, a few of them long.
func (d *dice) number() string {
	x := big.NewRat(int64(d.below(9)-4), int64(1+d.below(4)/2))
	if d.rarely(60) {
		x.Mul(x, big.NewRat(1<<62, 1<<61-1)).Mul(x, x)
	}
	return x.RatString()
}

// numbers throws so many; sparse: most of them are 0.
func (d *dice) numbers(n int, sparse bool) []string {
	all := make([]string, n)
	for k := range all {
		all[k] = "0"
		if !sparse || d.rarely(4) {
			all[k] = d.number()
		}
	}
	return all
}

// program throws one that may be, of at most so many columns and rows.
func (d *dice) program(cols, rows int) api.LP {
	var l api.LP
	for range d.below(cols + 1) {
		c := api.Col{Name: d.of("x", "y", ""), Cost: d.number(), Int: d.rarely(4)}
		if d.rarely(2) {
			c.Low = d.number()
		}
		if d.rarely(2) {
			c.Up = d.number()
		}
		if c.Low != "" && c.Up != "" && rat(c.Low).Cmp(rat(c.Up)) > 0 {
			c.Low, c.Up = c.Up, c.Low
		}
		l.Cols = append(l.Cols, c)
	}
	for range d.below(rows + 1) {
		r := api.Row{Kind: 1 + d.below(3), Rhs: d.number()}
		for k := range l.Cols {
			if v := d.number(); d.rarely(2) && v != "0" {
				r.Coef = append(r.Coef, api.Coef{Col: k, V: v})
			}
		}
		l.Rows = append(l.Rows, r)
	}
	return l
}

// dual throws numbers that rows take, most of the time.
func (d *dice) dual(l api.LP, sparse bool) []string {
	y := d.numbers(len(l.Rows), sparse)
	for k, r := range l.Rows {
		if sign := rat(y[k]).Sign(); !d.rarely(40) && (r.Kind == 1 && sign > 0 || r.Kind == 3 && sign < 0) {
			y[k] = new(big.Rat).Neg(rat(y[k])).RatString()
		}
	}
	return y
}

// spoil writes, now and then, what may not be.
func (d *dice) spoil(l *api.LP, x, y []string) ([]string, []string) {
	bad := d.of(noNumbers...)
	if len(l.Cols) == 0 || len(l.Rows) == 0 {
		return x, y
	}
	col, row := &l.Cols[d.below(len(l.Cols))], &l.Rows[d.below(len(l.Rows))]
	switch d.below(40) {
	case 0:
		col.Cost = bad
	case 1:
		col.Low = bad
	case 2:
		col.Up = bad
	case 3:
		col.Low, col.Up = d.number(), d.number()
	case 4:
		row.Kind = d.below(7) - 1
	case 5:
		row.Rhs = bad
	case 6:
		row.Range = d.of("0", "1", bad)
	case 7:
		row.Coef = append(row.Coef, api.Coef{Col: d.below(len(l.Cols) + 2), V: "1"})
	case 8:
		row.Coef = slices.Insert(row.Coef, 0, api.Coef{Col: d.below(3) - 1, V: "1"})
	case 9:
		row.Coef = append(row.Coef, api.Coef{Col: len(l.Cols) - 1, V: d.of("0", bad)})
	case 10:
		x[d.below(len(x))] = bad
	case 11:
		y[d.below(len(y))] = bad
	case 12:
		return x[1:], y[:len(y)-1]
	case 13:
		return append(x, "0"), append(y, "0")
	}
	return x, y
}

func TestThrown(t *testing.T) {
	d := dice(1)
	for n := range 12000 {
		size := []int{2, 3, 4, 8}[n%4]
		l := d.program(size, size)
		x, y := d.numbers(len(l.Cols), n%3 == 0), d.dual(l, n%2 == 0)
		x, y = d.spoil(&l, x, y)
		agrees(t, l, x, y)
	}
}

// To points that are thrown rows are made that hold there, or just do not.
func TestThrownThatFit(t *testing.T) {
	d := dice(2)
	fit, cut := 0, 0
	for range 6000 {
		l := d.program(5, 5)
		x := d.numbers(len(l.Cols), false)
		for k := range l.Cols {
			c := &l.Cols[k]
			if c.Low != "" {
				c.Low = new(big.Rat).Sub(rat(x[k]), big.NewRat(int64(d.below(2)), 3)).RatString()
			}
			if c.Up != "" {
				c.Up = new(big.Rat).Add(rat(x[k]), big.NewRat(int64(d.below(2)), 3)).RatString()
			}
			c.Int = c.Int && rat(x[k]).IsInt()
		}
		at, _ := numbers(x, len(x))
		for k := range l.Rows {
			r := &l.Rows[k]
			slack := big.NewRat(int64(d.below(2)*(2-r.Kind)), 7)
			r.Rhs = slack.Add(slack, products(full(*r, len(x)), at)).RatString()
		}
		agrees(t, l, x, d.dual(l, true))
		if !prob.Fits(l, x) || !prob.Whole(l, x) {
			t.Fatalf("P14.1: %v does not fit %v", x, l)
		}
		fit++
		if len(l.Rows) == 0 {
			continue
		}
		r := &l.Rows[d.below(len(l.Rows))]
		way := int64(r.Kind - 2)
		if way == 0 {
			way = int64(d.below(2)*2 - 1)
		}
		off := big.NewRat(way, 1000000007)
		r.Rhs = off.Add(off, products(full(*r, len(x)), at)).RatString()
		agrees(t, l, x, nil)
		if prob.Fits(l, x) {
			t.Fatalf("P14.1: %v fits %v", x, l)
		}
		cut++
	}
	if fit < 5000 || cut < 4000 {
		t.Errorf("thrown too few: %d, %d", fit, cut)
	}
}

// What fits is worth no less than any Bound with costs, and of a program that
// something fits no Bound without them is above 0; from it a Ray stays within.
func TestThrownBoundsHold(t *testing.T) {
	d := dice(3)
	held, rays := 0, 0
	for range 40000 {
		l := d.program(3, 3)
		x, y, r := d.numbers(len(l.Cols), false), d.dual(l, false), d.numbers(len(l.Cols), false)
		if !prob.Fits(l, x) {
			continue
		}
		value, _ := prob.Value(l, x)
		if floor, ok := prob.Bound(l, y, true); ok {
			held++
			if rat(floor).Cmp(rat(value)) > 0 {
				t.Fatalf("P14.1: %v fits %v, but its Bound of %v is %s", x, l, y, floor)
			}
		}
		if floor, ok := prob.Bound(l, y, false); ok && rat(floor).Sign() > 0 {
			t.Fatalf("P14.1: %v fits %v, but its Bound of %v without costs is %s", x, l, y, floor)
		}
		if prob.Ray(l, r) {
			rays++
			far := make([]string, len(x))
			for k := range far {
				far[k] = new(big.Rat).Add(rat(x[k]), new(big.Rat).Mul(rat(r[k]), big.NewRat(1000, 1))).RatString()
			}
			less, _ := prob.Value(l, far)
			if !prob.Fits(l, far) || rat(less).Cmp(rat(value)) >= 0 {
				t.Fatalf("P14.1: %v is a Ray of %v, but not from %v", r, l, x)
			}
		}
	}
	if held < 300 || rays < 300 {
		t.Errorf("thrown too few: %d, %d", held, rays)
	}
}

// great throws a program of 100 columns and 440 rows, every Coef there.
func (d *dice) great() api.LP {
	var l api.LP
	for range 100 {
		l.Cols = append(l.Cols, api.Col{Low: "-3", Up: "5/2", Cost: d.number(), Int: true})
	}
	for range 440 {
		r := api.Row{Kind: 1 + d.below(3), Rhs: d.number()}
		for k := range l.Cols {
			r.Coef = append(r.Coef, api.Coef{Col: k, V: d.of("1", "-1", "1/2", "-7/3", "5")})
		}
		l.Rows = append(l.Rows, r)
	}
	return l
}

func TestGreatest(t *testing.T) {
	d := dice(4)
	l := d.great()
	agrees(t, l, d.numbers(100, false), d.dual(l, false))
	agrees(t, l, d.numbers(100, true), d.dual(l, true))
	x := many("1/3", 100)
	at, _ := numbers(x, 100)
	for k := range l.Rows {
		l.Rows[k].Rhs = products(full(l.Rows[k], 100), at).RatString()
	}
	agrees(t, l, x, d.dual(l, true))
	if !prob.Fits(l, x) {
		t.Error("P14.1: the greatest program does not fit")
	}
	for _, k := range []int{0, 1, 99, 100, 438, 439} {
		r := &l.Rows[k]
		old := r.Rhs
		r.Rhs = new(big.Rat).Add(rat(old), big.NewRat(int64([]int{0, -1, 1, 1}[r.Kind]), 9)).RatString()
		if prob.Fits(l, x) {
			t.Errorf("P14.1: row %d of 440 is not asked", k)
		}
		r.Rhs = old
	}
	for _, k := range []int{0, 50, 98, 99} {
		if x[k] = "3"; prob.Fits(l, x) {
			t.Errorf("P14.1: column %d of 100 is not asked", k)
		}
		x[k] = "1/3"
	}
}

// Denominators that have nothing in common: the sums grow long.
func TestLongSums(t *testing.T) {
	d := dice(5)
	long := func(digits int) string {
		var b strings.Builder
		for b.Len() < digits {
			fmt.Fprint(&b, 1+d.below(9))
		}
		n, _ := new(big.Int).SetString(b.String(), 10)
		return big.NewRat(1, 1).SetFrac(big.NewInt(int64(1+d.below(9))), n).RatString()
	}
	var l api.LP
	for range 20 {
		l.Cols = append(l.Cols, api.Col{Low: "-" + long(30), Up: long(30), Cost: long(30)})
	}
	for range 10 {
		r := api.Row{Kind: api.REqual, Rhs: long(30)}
		for k := range l.Cols {
			r.Coef = append(r.Coef, api.Coef{Col: k, V: long(30)})
		}
		l.Rows = append(l.Rows, r)
	}
	var x, y []string
	for range 20 {
		x, y = append(x, long(31)), append(y, long(30))
	}
	agrees(t, l, x, y[:10])
	at, _ := numbers(x, 20)
	for k := range l.Rows {
		l.Rows[k].Rhs = products(full(l.Rows[k], 20), at).RatString()
		l.Cols[2*k].Up, l.Cols[2*k+1].Up = "", "1"
	}
	agrees(t, l, x, y[:10])
}
