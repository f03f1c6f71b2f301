package dual_test

import (
	"fmt"
	"math/big"
	"strings"
	"testing"

	"victualler/api"
	"victualler/frac"
	"victualler/prob"
)

// goes counts from which Status to which a change leads.
type goes [4][4]int

func (g *goes) change(x *asked, d *dice) {
	x.Helper()
	from := x.a.Status
	if n := len(x.l.Cols); n > 0 && d.below(3) > 0 {
		low, up := d.ends()
		x.bounds(d.below(n), low, up)
	} else {
		x.row(d.row(n))
	}
	g[from][x.a.Status]++
}

// all asks for each way from one Status to another that it was gone so often. (No
// row helps where nothing fits; but bounds do.)
func (g *goes) all(t *testing.T, often int) {
	t.Helper()
	for from := best; from <= free; from++ {
		for to := best; to <= free; to++ {
			if g[from][to] < often {
				t.Errorf("from %d to %d it went %d times", from, to, g[from][to])
			}
		}
	}
}

func TestThrown(t *testing.T) {
	d := dice(8)
	var g goes
	for k := range 900 {
		x := begin(t, fmt.Sprint("thrown ", k), d.program(d.below(6), d.below(6)))
		for range 8 {
			g.change(x, &d)
		}
	}
	g.all(t, 25)
}

func TestGreaterThrown(t *testing.T) {
	d := dice(9)
	var g goes
	for k := range 40 {
		x := begin(t, fmt.Sprint("greater ", k), d.program(5+d.below(15), d.below(15)))
		for range 15 {
			g.change(x, &d)
		}
	}
	g.all(t, 2)
}

// From each pair of bounds to each, with each cost, and with each of some rows.
func TestAllBoundsOfOneColumn(t *testing.T) {
	ends := []string{"", "-2", "-1/3", "0", "5/2"}
	var pairs [][2]string
	for _, low := range ends {
		for _, up := range ends {
			if prob.May(api.LP{Cols: []api.Col{{Cost: "0", Low: low, Up: up}}}) {
				pairs = append(pairs, [2]string{low, up})
			}
		}
	}
	for _, cost := range []string{"-1", "0", "2/3"} {
		for _, text := range []string{"", "1 < 1", "1 > 1/7", "2 = 1", "0 > 0", "0 > 1"} {
			for _, from := range pairs {
				x := begin(t, "one column", api.LP{Cols: []api.Col{{Cost: cost, Low: from[0], Up: from[1]}}})
				if text != "" {
					x.step(text)
				}
				for _, to := range pairs {
					x.bounds(0, to[0], to[1])
					x.bounds(0, from[0], from[1])
				}
			}
		}
	}
}

// All pairs of rows of a few numbers, and then bounds.
func TestAllPairsOfRows(t *testing.T) {
	numbers := []string{"-1", "0", "1"}
	var rows []api.Row
	for _, kind := range []string{"<", "=", ">"} {
		for _, rhs := range []string{"0", "1"} {
			for _, v := range numbers {
				for _, w := range numbers {
					rows = append(rows, row(strings.Join([]string{v, w, kind, rhs}, " ")))
				}
			}
		}
	}
	for _, first := range rows {
		for k, second := range rows {
			l := cols([]string{"1 0 -,-1 0 -", "-1 - -,2 0 1", "1 - 0,1 0 -"}[k%3])
			x := begin(t, "two rows", l)
			x.row(first)
			x.row(second)
			x.bounds(1, "1/2", "3")
			x.bounds(0, "-1", "")
		}
	}
}

// Rows that all meet in 0, where steps lead nowhere, and columns that come and go.
func TestCones(t *testing.T) {
	d := dice(10)
	for _, n := range []int{3, 8, 16} {
		for _, size := range []int{1, 3, 50} {
			var l api.LP
			for range n {
				l.Cols = append(l.Cols, api.Col{Cost: fmt.Sprint(d.below(2*size+1) - size), Low: "0", Up: "100"})
			}
			x := begin(t, fmt.Sprint("a cone of ", n), l)
			for k := range 3 * n {
				r := api.Row{Kind: 1 + d.below(3), Rhs: "0"}
				for j := range n {
					if v := d.below(2*size+1) - size; v != 0 {
						r.Coef = append(r.Coef, api.Coef{Col: j, V: fmt.Sprint(v)})
					}
				}
				if r.Kind == api.REqual && d.below(4) > 0 {
					r.Kind = api.RLess
				}
				x.row(r)
				c := d.below(n)
				switch k % 4 {
				case 0:
					x.bounds(c, "0", "")
				case 1:
					x.bounds(c, "0", "0")
				case 2:
					x.bounds(c, "", "1")
				case 3:
					x.bounds(c, "0", "1/"+fmt.Sprint(1+d.below(9)))
				}
			}
		}
	}
}

// Branching by hand: what no whole number lies in is parted in two, each a copy.
func TestBranches(t *testing.T) {
	d := dice(11)
	for range 12 {
		n := 4 + d.below(5)
		l := api.LP{}
		for range n {
			l.Cols = append(l.Cols, api.Col{Cost: fmt.Sprint(-1 - d.below(20)), Low: "0", Up: "3"})
		}
		for range 3 {
			r := api.Row{Kind: api.RLess, Rhs: fmt.Sprint(20 + d.below(30))}
			for j := range n {
				r.Coef = append(r.Coef, api.Coef{Col: j, V: fmt.Sprint(1 + d.below(20))})
			}
			l.Rows = append(l.Rows, r)
		}
		open := []*asked{begin(t, "the root", l)}
		for count := 0; len(open) > 0 && count < 60; count++ {
			x := open[len(open)-1]
			open = append(open[:len(open)-1], x.branches()...)
		}
	}
}

func (x *asked) branches() []*asked {
	for k, text := range x.a.X {
		f, _ := frac.Get(text)
		if f.Whole() {
			continue
		}
		left, right := *x, *x
		left.s, right.s = x.s.Copy(), x.s.Copy()
		left.bounds(k, x.l.Cols[k].Low, f.Floor().Text())
		right.bounds(k, f.Floor().Add(frac.Of(1)).Text(), x.l.Cols[k].Up)
		for _, y := range []*asked{&left, &right} {
			if y.a.Status == best && rat(y.a.Value).Cmp(rat(x.a.Value)) < 0 {
				x.Errorf("P17.1: a branch of %s is worth %s", x.a.Value, y.a.Value)
			}
		}
		return []*asked{&left, &right}
	}
	return nil
}

func rat(s string) *big.Rat {
	x, _ := new(big.Rat).SetString(s)
	return x
}

// Whatever the texts are, each call ends, and answers what is right just if what
// would be may be.
func FuzzState(f *testing.F) {
	f.Add("1", "0", "", "-2/3", "", "4", 1, "1", "1", "3", 0, "1/2", "2", 1, "", "5")
	f.Add("-1", "", "", "1", "0", "0", 2, "3", "-3", "1", 1, "2", "1", -1, "0", "1")
	f.Add("x", "1/2", "0", "0", "-1", "1", 9, "0", "1", "01", 2, "18446744073709551616", "", 0, "1/0", "-")
	f.Fuzz(func(t *testing.T, cost, low, up, cost2, low2, up2 string, kind int, v, w, rhs string, col int, a, b string, then int, p, q string) {
		l := api.LP{Cols: []api.Col{{Cost: cost, Low: low, Up: up}, {Cost: cost2, Low: low2, Up: up2}}}
		if !prob.May(l) {
			l = cols("1 0 -,-1 - 5")
		}
		x := begin(t, "fuzzed", l)
		r := api.Row{Kind: kind, Rhs: rhs, Coef: []api.Coef{{Col: 0, V: v}, {Col: 1, V: w}}}
		x.row(r)
		x.bounds(col, a, b)
		r.Kind = api.RMore
		x.row(r)
		x.bounds(then, p, q)
		x.bounds(then, "", "")
	})
}
