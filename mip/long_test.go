package mip_test

import (
	"fmt"
	"math/big"
	"strings"
	"testing"

	"victualler/api"
	"victualler/corner"
	"victualler/dual"
	"victualler/mip"
)

var nines = strings.Repeat("9", 2000)

// Numbers of as many digits as there may be.
func TestLongNumbers(t *testing.T) {
	half := new(big.Rat).Quo(number(nines), number("2"))
	up := new(big.Rat).Sub(half, number("1/2")).RatString()
	is(t, "a long bound", lp("-1 0 "+nines+" int"), best, "-"+nines)
	is(t, "a long half", lp("-1 0 "+half.RatString()+" int"), best, "-"+up)
	is(t, "a long half below 0", lp("1 -"+half.RatString()+" 0 int"), best, "-"+up)
	is(t, "a row", lp("-1 0 "+nines+" int", "2 < "+nines), best, "-"+up)
	is(t, "nothing between", lp("-1 0 "+nines+" int", "2 = "+nines), none, "")
	is(t, "nothing between bounds", lp("1 1/"+nines+" 2/"+nines+" int"), none, "")
	is(t, "all of them", lp("1 -"+nines+" "+nines+" int", "1 > -"+half.RatString()), best, "-"+up)
	is(t, "no end", lp("0 0 "+nines+" int,-1 0 -", "2 0 > "+half.RatString()), free, "")
	is(t, "a long cost", lp(nines+" 0 1 int,-1/"+nines+" 0 1", "1 -1 > 0"), best, "0")
}

// digits are so many, none of them 0.
func (d *dice) digits(n int) string {
	b := make([]byte, n)
	for k := range b {
		b[k] = byte('1' + d.below(9))
	}
	return string(b)
}

// long has so many columns and rows of numbers of so many digits.
func long(d *dice, size, digits int) api.LP {
	var l api.LP
	for range size {
		l.Cols = append(l.Cols, api.Col{Cost: "-" + d.digits(digits), Low: "0", Up: fmt.Sprint(2 + d.below(3)), Int: true})
	}
	for range size {
		r, all := api.Row{Kind: api.RLess}, new(big.Rat)
		for k := range size {
			v := d.digits(digits)
			r.Coef = append(r.Coef, api.Coef{Col: k, V: v})
			all.Add(all, number(v))
		}
		r.Rhs = all.RatString()
		l.Rows = append(l.Rows, r)
	}
	return l
}

// Where corners have numbers that are too long to be read what is whole is found all
// the same, and the tree shows it.
func TestLongCorners(t *testing.T) {
	d := dice(7)
	unread := 0
	for k, digits := range []int{700, 1100, 1500, 1500, 1900, 1990} {
		for _, size := range []int{2, 3} {
			l := long(&d, size, digits)
			_, a, _ := dual.New(l)
			if !corner.Readable(a.X, a.Dual) {
				unread++
			}
			got := both(t, fmt.Sprint("long ", k), l)
			if status, value := tried(l); got.Status != status || got.Value != value {
				t.Errorf("P19.1: long %d: Solve is %d, %s", k, got.Status, brief(got.Value))
			}
			l.Rows[0].Kind, l.Rows[0].Rhs = api.REqual, d.digits(digits)
			if got := both(t, fmt.Sprint("long, equal ", k), l); got.Status != none {
				t.Errorf("P19.1: long, equal %d: Solve is %d", k, got.Status)
			}
		}
	}
	if unread < 3 {
		t.Errorf("the throws are poor: %d", unread)
	}
}

// What nobody can read as floor or point no tree shows: it is told all the same.
func TestTooLong(t *testing.T) {
	p, q := nines[:1990], strings.Repeat("7", 1989)+"1"
	l := lp("1/"+p+" 1 1 int,1/"+q+" 1 1 int", "1 1 < 5/2")
	value := new(big.Rat).Add(number("1/"+p), number("1/"+q)).RatString()
	for _, deep := range []bool{false, true} {
		if a, tree, e := mip.Solve(l, deep, 0); e != api.OK || a.Status != best || a.Value != value || len(tree) != 1 {
			t.Errorf("P19.1: a long Value is %d, %.40s, %d", a.Status, a.Value, e)
		}
	}
	l = lp("-1 0 - ,1 0 2 int", "1/"+p+" 1/"+q+" = "+q+"/"+p)
	for _, deep := range []bool{false, true} {
		if a, _, e := mip.Solve(l, deep, 0); e != api.OK || a.Status != best || len(a.X) != 2 {
			t.Errorf("P19.1: a long X is %d, %d", a.Status, e)
		}
	}
}
