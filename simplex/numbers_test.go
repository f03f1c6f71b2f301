package simplex_test

import (
	"fmt"
	"math/big"
	"strings"
	"testing"

	"victualler/api"
	"victualler/frac"
	"victualler/simplex"
)

// edges are sizes at which a number begins or ends to be short.
var edges = []string{"1", "2", "4294967295", "4294967296", "4294967297", "9223372036854775807", "9223372036854775808", "18446744073709551615", "18446744073709551616", "18446744073709551617", "340282366920938463463374607431768211456"}

// edge throws a number, often one at an edge, by another one.
func edge(d *dice) string {
	x := big.NewRat(int64(d.below(9)-4), int64(1+d.below(3)))
	for range 2 {
		f := rat(edges[d.below(len(edges))])
		if d.below(2) == 0 {
			x.Quo(x, f)
		} else {
			x.Mul(x, f)
		}
	}
	return x.RatString()
}

func TestEdgesOfWords(t *testing.T) {
	d := dice(14)
	var seen [4]int
	for range 1500 {
		l := thrown(&d, 1+d.below(5), 1+d.below(5))
		for k := range l.Cols {
			c := &l.Cols[k]
			c.Cost = edge(&d)
			if d.below(2) == 0 {
				c.Low, c.Up = edge(&d), ""
			}
		}
		for k := range l.Rows {
			l.Rows[k].Rhs = edge(&d)
			for j := range l.Rows[k].Coef {
				if v := edge(&d); v != "0" {
					l.Rows[k].Coef[j].V = v
				}
			}
		}
		seen[solved(t, "edges", l).Status]++
	}
	if seen[best] < 100 || seen[none] < 100 || seen[free] < 100 {
		t.Errorf("the Statuses are %v", seen)
	}
}

// digits is a number of so many digits.
func digits(digit string, n int) string { return strings.Repeat(digit, n) }

// Numbers as long as they may be.
func TestLongNumbers(t *testing.T) {
	nines, sevens, ones := digits("9", 2000), digits("7", 2000), digits("1", 1999)+"3"
	for k, x := range []struct {
		l      api.LP
		status int
		value  string
	}{
		{lp("1 " + nines + " -"), best, nines},
		{lp("-1 - " + nines), best, "-" + nines},
		{lp("1 - -", nines+" > 1"), best, "1/" + nines},
		{lp("1 - -", "1/"+nines+" > 1"), best, nines},
		{lp("1 - -", nines+" = "+ones), best, rat(ones).Quo(rat(ones), rat(nines)).RatString()},
		{lp("1 0 1/"+nines, "1 > 1/"+sevens), none, ""},
		{lp("1 0 1/"+sevens, "1 > 1/"+nines), best, "1/" + nines},
		{lp("0 - -", "1 > "+nines, "1 < "+sevens), none, ""},
		{lp("-1/"+nines+" 0 -,"+nines+" 0 -", "1 -"+sevens+" < 1"), best, "-1/" + nines},
		{lp("-"+nines+" 0 -,0 0 -", nines+" -"+sevens+" < "+ones), free, ""},
		{lp("1 - -,1 - -", "1 -"+nines+" = 0", "1 "+nines+" = 2"), best, rat("1").Add(rat("1"), rat("1/"+nines)).RatString()},
	} {
		is(t, fmt.Sprint("long numbers ", k), x.l, x.status, x.value)
	}
}

// A Value may be longer than a text that is read; so may X, where there is no
// other: then Solve tells it all the same.
func TestAnswersLongerThanTexts(t *testing.T) {
	p, q := digits("9", 1990), digits("7", 1989)+"1"
	l := lp("1/"+p+" 1 -,1/"+q+" 1 -", "1 0 < "+q)
	if a := ends(t, "a long Value", l, best); len(a.Value) < 2500 {
		t.Errorf("P16.1: Value has %d bytes", len(a.Value))
	}
	l = lp("1 - -,1 - -,1 - -", p+" 0 0 = 1", "-1 "+q+" 0 = 0", "0 -1 "+p+" = 0")
	a, ok := simplex.Solve(l)
	if w := wrong(l, a); !ok || a.Status != best || w != "" || len(a.X[2]) < 5900 {
		t.Errorf("P16.1: of a long X Solve is %d, %v: %s", a.Status, ok, w)
	}
}

// Of a Ray and of what shows that nothing fits, any multiple would do: it is one
// that can be read, if there is one that is whole or has a 1.
func TestMultiplesThatCanBeRead(t *testing.T) {
	p, q, r, s := digits("9", 1500), digits("7", 1499)+"1", digits("3", 1500)+"1", digits("1", 1490)+"7"
	for k, x := range []struct {
		l      api.LP
		status int
	}{
		// The Ray is 1, p/q, or whole: of numbers of 1,500 digits.
		{lp("-1 0 -,0 0 -", p+" -"+q+" = 0"), free},
		// Whole ones would have 3,000: it is q/p, 1, r/s.
		{lp("-1 0 -,0 0 -,0 0 -", p+" -"+q+" 0 = 0", "0 "+r+" -"+s+" = 0"), free},
		{lp("0 0 -,0 0 -,-1 0 -", p+" -"+q+" 0 = 0", "0 "+r+" -"+s+" = 0"), free},
		// One row alone that has to do with long denominators.
		{lp("1 0 1", "1/"+p+" > 1"), none},
		// Rows that are held against one another.
		{lp("0 - -,0 - -", p+" -"+q+" > 1", "-"+p+" "+q+" > 0"), none},
		{lp("0 - -", p+" > 1", "-"+q+" > 1"), none},
	} {
		a := ends(t, fmt.Sprint("a multiple ", k), x.l, x.status)
		for _, text := range append(a.Ray, a.Dual...) {
			if _, ok := frac.Get(text); !ok {
				t.Errorf("P16.1, %d: %.20s of %d bytes can't be read", k, text, len(text))
			}
		}
	}
}

// Hilbert's rows are nearly the same, and their numbers become long.
func TestHilbert(t *testing.T) {
	for _, n := range []int{2, 5, 10, 16} {
		var l api.LP
		for k := range n {
			l.Cols = append(l.Cols, api.Col{Cost: "1"})
			var texts []string
			total := new(big.Rat)
			for j := range n {
				v := big.NewRat(1, int64(k+j+1))
				texts = append(texts, v.RatString())
				total.Add(total, v)
			}
			l.Rows = append(l.Rows, api.Row{Kind: api.REqual, Coef: coefs(texts), Rhs: total.RatString()})
		}
		is(t, fmt.Sprint("Hilbert's ", n), l, best, fmt.Sprint(n))
		for k := range l.Cols {
			l.Cols[k].Low = "0"
			l.Rows[k].Kind = api.RMore
		}
		solved(t, fmt.Sprint("Hilbert's ", n), l)
		l.Cols[0].Up = "1/2"
		for k := range l.Rows {
			l.Rows[k].Kind = api.REqual
		}
		is(t, fmt.Sprint("Hilbert's ", n), l, none, "")
	}
}

// Denominators that have nothing in common.
func TestPrimes(t *testing.T) {
	d, p := dice(15), big.NewInt(1<<30)
	next := func() string {
		for p.Add(p, big.NewInt(1)); !p.ProbablyPrime(0); p.Add(p, big.NewInt(1)) {
		}
		return p.String()
	}
	l := covering(&d, 12, 20, 2, "")
	for k := range l.Rows {
		l.Rows[k].Rhs += "/" + next()
		for j := range l.Rows[k].Coef {
			l.Rows[k].Coef[j].V = "1/" + next()
		}
	}
	ends(t, "primes", l, best)
	for k := range l.Cols {
		l.Cols[k].Up = "1/" + next()
	}
	l.Rows[7].Rhs = "1"
	is(t, "primes", l, none, "")
}
