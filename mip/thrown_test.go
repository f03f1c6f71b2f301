package mip_test

import (
	"fmt"
	"math/big"
	"strconv"
	"testing"

	"victualler/api"
	"victualler/leaf"
	"victualler/mip"
	"victualler/prob"
)

// program throws one of small numbers that may be.
func (d *dice) program(cols, rows int) api.LP {
	var l api.LP
	for range cols {
		c := api.Col{Cost: big.NewRat(int64(d.below(13)-6), int64(1+d.below(5)/4)).RatString(), Int: d.below(3) > 0}
		low := big.NewRat(int64(d.below(9)-5), int64(1+d.below(4)/3))
		up := new(big.Rat).Add(low, big.NewRat(int64(d.below(11)), int64(1+d.below(2))))
		if c.Int || d.below(4) > 0 {
			c.Low = low.RatString()
		}
		if c.Int || d.below(3) > 0 {
			c.Up = up.RatString()
		}
		l.Cols = append(l.Cols, c)
	}
	for range rows {
		r := api.Row{Kind: 1 + d.below(3), Rhs: big.NewRat(int64(d.below(25)-12), int64(1+d.below(8)/7)).RatString()}
		for k := range l.Cols {
			if v := d.below(9) - 4; v != 0 {
				r.Coef = append(r.Coef, api.Coef{Col: k, V: strconv.Itoa(v)})
			}
		}
		l.Rows = append(l.Rows, r)
	}
	return l
}

// What is thrown is as tried number by number.
func TestThrown(t *testing.T) {
	d := dice(4)
	var seen, grown [4]int
	for k := range 900 {
		l := d.program(d.below(5), d.below(4))
		a := both(t, fmt.Sprint("thrown ", k), l)
		if a.Status == spent {
			t.Fatalf("P19.1: thrown %d is spent: %v", k, l)
		}
		if status, value := tried(l); a.Status != status || a.Value != value {
			t.Fatalf("P19.1: thrown %d: %v: Solve is %v, not %d, %s", k, l, a, status, value)
		}
		_, tree := solved(t, "thrown", l, true, 0)
		seen[a.Status]++
		if len(tree) > 1 {
			grown[a.Status]++
		}
	}
	if min(seen[best], seen[none], seen[free]) < 50 || grown[best] < 60 || grown[none] < 20 {
		t.Errorf("the throws are poor: %v, trees %v", seen, grown)
	}
}

// Equalities of whole numbers alone, of which often none fits.
func TestThrownEqualities(t *testing.T) {
	d := dice(5)
	var seen [5]int
	for k := range 300 {
		l := d.program(2+d.below(2), 1+d.below(2))
		for j := range l.Cols {
			l.Cols[j] = api.Col{Cost: l.Cols[j].Cost, Low: "0", Up: strconv.Itoa(1 + d.below(9)), Int: true}
		}
		for j := range l.Rows {
			l.Rows[j].Kind, l.Rows[j].Rhs = api.REqual, strconv.Itoa(d.below(19)-6)
		}
		a := both(t, fmt.Sprint("equalities ", k), l)
		if status, value := tried(l); a.Status != spent && (a.Status != status || a.Value != value) {
			t.Fatalf("P19.1: equalities %d: %v: Solve is %v, not %d, %s", k, l, a, status, value)
		}
		seen[a.Status]++
	}
	if seen[best] < 60 || seen[none] < 60 || seen[spent] > 0 {
		t.Errorf("the throws are poor: %v", seen)
	}
}

// Greater ones: their trees show it.
func TestGreater(t *testing.T) {
	d := dice(6)
	for k, l := range []api.LP{knapsack(&d, 12, 3, 1), knapsack(&d, 20, 1, 1), knapsack(&d, 6, 2, 5), covering(&d, 12, 8, 2), covering(&d, 8, 30, 3), covering(&d, 6, 6, 3)} {
		if a := both(t, fmt.Sprint("greater ", k), l); a.Status != best {
			t.Errorf("P19.1: greater %d is %d", k, a.Status)
		}
	}
	// Many columns and rows, which all but a few have nothing to do.
	l := covering(&d, 6, 6, 3)
	for k := len(l.Cols); k < 100; k++ {
		l.Cols = append(l.Cols, api.Col{Cost: "1", Low: "-3/2", Up: "5/2", Int: k%2 == 0})
	}
	for len(l.Rows) < 440 {
		l.Rows = append(l.Rows, api.Row{Kind: api.RLess, Rhs: "500", Coef: []api.Coef{{Col: len(l.Rows) % 100, V: "7"}}})
	}
	a, _, e := mip.Solve(l, true, 0)
	b, _, f := mip.Solve(l, true, 1)
	if e != api.OK || f != api.OK || a.Status != best && a.Status != spent || b.Status != spent {
		t.Errorf("P19.1: 100 columns and 440 rows: %v, %v", a, b)
	}
}

// covering asks of each row that some columns come to as much.
func covering(d *dice, cols, rows, most int) api.LP {
	var l api.LP
	for range cols {
		l.Cols = append(l.Cols, api.Col{Cost: strconv.Itoa(1 + d.below(20)), Low: "0", Up: strconv.Itoa(most), Int: true})
	}
	for range rows {
		r, all := api.Row{Kind: api.RMore}, 0
		for k := range cols {
			if d.below(2) == 0 {
				v := 1 + d.below(9)
				r.Coef = append(r.Coef, api.Coef{Col: k, V: strconv.Itoa(v)})
				all += v * most
			}
		}
		r.Rhs = strconv.Itoa(all / 3)
		l.Rows = append(l.Rows, r)
	}
	return l
}

// Whatever the texts are, Solve ends, and answers what is right of what may be.
func FuzzSolve(f *testing.F) {
	f.Add("-5", "0", "9", true, "-4", "0", "9", true, 1, "6", "4", "24", 1, "1", "2", "6", true, 0)
	f.Add("1", "1/3", "2/3", true, "-1", "0", "", false, 3, "1", "-1", "1/2", 2, "2", "1", "7", false, 5)
	f.Add("x", "", "1", true, "1", "0", "1/0", false, 9, "0", "1", "01", 0, "", "-", "3", true, -1)
	f.Fuzz(func(t *testing.T, cost, low, up string, whole bool, cost2, low2, up2 string, whole2 bool, kind int, v, w, rhs string, kind2 int, v2, w2, rhs2 string, deep bool, nodes int) {
		l := api.LP{
			Cols: []api.Col{{Cost: cost, Low: low, Up: up, Int: whole}, {Cost: cost2, Low: low2, Up: up2, Int: whole2}},
			Rows: []api.Row{{Kind: kind, Coef: []api.Coef{{Col: 0, V: v}, {Col: 1, V: w}}, Rhs: rhs}, {Kind: kind2, Coef: []api.Coef{{Col: 0, V: v2}, {Col: 1, V: w2}}, Rhs: rhs2}},
		}
		a, tree, e := mip.Solve(l, deep, nodes)
		lacks := whole && (low == "" || up == "") || whole2 && (low2 == "" || up2 == "")
		switch {
		case !prob.May(l):
			if e != api.ErrForm {
				t.Fatalf("P19.1: Solve of %v is %d", l, e)
			}
		case lacks:
			if e != api.ErrBound {
				t.Fatalf("P19.1: Solve of %v is %d", l, e)
			}
		case e != api.OK || a.Status != spent && !leaf.Check(l, a, tree):
			t.Fatalf("P19.1: Solve of %v is %v, %v, %d", l, a, tree, e)
		}
	})
}
