package dual_test

import (
	"fmt"
	"reflect"
	"strings"
	"testing"

	"victualler/api"
	"victualler/dual"
	"victualler/frac"
)

// As many rows as there may be, and one more.
func TestRowsAtTheLimit(t *testing.T) {
	for _, n := range []int{0, 1, 437} {
		l := cols("1 0 9")
		for range n {
			l.Rows = append(l.Rows, row("1 > 1/2"))
		}
		s, _, ok := dual.New(l)
		if !ok {
			t.Fatalf("P17.1: New says no to %d rows", n)
		}
		for k := n; k < 438; k++ {
			if a, ok := s.Row(row("1 > 2/3")); !ok || a.Value != "2/3" {
				t.Fatalf("P17.1: row %d is %v, %v", k, a, ok)
			}
			l.Rows = append(l.Rows, row("1 > 2/3"))
		}
		x := &asked{t, "so many rows", s, l, api.Answer{}}
		x.step("1 < 7")
		x.is(best, "2/3")
		x.step("1 > 5")
		x.is(best, "5")
		for _, r := range []api.Row{row("1 > 0"), row("1 < 0"), {}} {
			if x.row(r) || len(s.LP().Rows) != 440 {
				t.Errorf("P17.1: there are %d rows", len(s.LP().Rows))
			}
		}
		u := s.Copy()
		if a, ok := u.Row(row("1 > 0")); ok || !reflect.DeepEqual(a, api.Answer{}) {
			t.Errorf("P17.1: a copy's row 441 is %v, %v", a, ok)
		}
		x.step("0: 6 -")
		x.is(best, "6")
		x.step("0: 8 -")
		x.is(none, "")
	}
	l := api.LP{}
	for range 441 {
		l.Rows = append(l.Rows, row("< 0"))
	}
	if s, a, ok := dual.New(l); s != nil || ok || !reflect.DeepEqual(a, api.Answer{}) {
		t.Error("P17.1: New of 441 rows")
	}
}

// As many columns as there may be, and one more.
func TestColumnsAtTheLimit(t *testing.T) {
	l := cols(strings.Repeat("-1 0 1,", 100))
	x := begin(t, "100 columns", l)
	x.is(best, "-100")
	for _, k := range []int{0, 1, 50, 98, 99} {
		if !x.bounds(k, "0", "5") {
			t.Errorf("P17.1: Bounds(%d) says no", k)
		}
	}
	x.is(best, "-120")
	if x.bounds(100, "0", "5") || x.bounds(-1, "0", "5") || x.bounds(101, "", "") {
		t.Error("P17.1: there are columns beyond")
	}
	if !x.row(row(strings.Repeat("1 ", 100)+"< 7")) || x.row(row(strings.Repeat("1 ", 101)+"< 6")) {
		t.Error("P17.1: Row at column 99 and behind")
	}
	x.is(best, "-7")
	if s, _, ok := dual.New(cols(strings.Repeat("-1 0 1,", 101))); s != nil || ok {
		t.Error("P17.1: New of 101 columns")
	}
}

// Great ones that change again and again.
func TestGreat(t *testing.T) {
	d := dice(12)
	for _, n := range [][3]int{{100, 430, 1}, {60, 60, 5}, {100, 20, 12}, {20, 300, 12}} {
		covers := func(k int) api.Row {
			r := api.Row{Kind: api.RMore, Rhs: fmt.Sprint(1 + d.below(20))}
			for j := range n[0] {
				if j == k%n[0] || d.below(40) == 0 {
					r.Coef = append(r.Coef, api.Coef{Col: j, V: fmt.Sprint(1 + d.below(20))})
				}
			}
			return r
		}
		var l api.LP
		for range n[0] {
			l.Cols = append(l.Cols, api.Col{Cost: fmt.Sprint(1 + d.below(20)), Low: "0"})
		}
		for k := range n[1] {
			l.Rows = append(l.Rows, covers(k))
		}
		x := begin(t, fmt.Sprint(n), l)
		for k := range n[2] {
			x.row(covers(d.below(100)))
			x.bounds(d.below(n[0]), fmt.Sprint(d.below(2)), []string{"", "1", "3/2"}[k%3])
			x.bounds(d.below(n[0]), "0", "")
		}
		x.bounds(0, "", "")
		x.row(api.Row{Kind: api.RLess, Rhs: "-1", Coef: covers(0).Coef})
		x.bounds(1, "0", "0")
	}
}

// edges are sizes at which a number begins or ends to be short.
var edges = []string{"1", "2", "4294967295", "4294967297", "9223372036854775807", "9223372036854775808", "18446744073709551615", "18446744073709551616", "18446744073709551617", "340282366920938463463374607431768211456"}

// edge throws a number, often one at an edge, by another one.
func (d *dice) edge() string {
	x := rat(fmt.Sprintf("%d/%d", d.below(9)-4, 1+d.below(3)))
	x.Mul(x, rat(edges[d.below(len(edges))]))
	return x.Quo(x, rat(edges[d.below(len(edges))])).RatString()
}

func TestEdgesOfWords(t *testing.T) {
	d := dice(13)
	var g [4]int
	for range 250 {
		n := 1 + d.below(4)
		l := d.program(n, 0)
		for k := range l.Cols {
			l.Cols[k].Cost = d.edge()
		}
		x := begin(t, "edges", l)
		for range 6 {
			r := d.row(n)
			r.Rhs = d.edge()
			for k := range r.Coef {
				if v := d.edge(); v != "0" {
					r.Coef[k].V = v
				}
			}
			x.row(r)
			low, up := d.edge(), ""
			if d.below(3) == 0 {
				up = d.edge()
			}
			x.bounds(d.below(n), low, up)
			g[x.a.Status]++
		}
	}
	if g[best] < 50 || g[none] < 50 || g[free] < 50 {
		t.Errorf("the Statuses are %v", g)
	}
}

// digits is a number of so many digits.
func digits(digit string, n int) string { return strings.Repeat(digit, n) }

// Numbers as long as they may be.
func TestLongNumbers(t *testing.T) {
	nines, sevens := digits("9", 2000), digits("7", 2000)
	x := begin(t, "long", cols("1 "+nines+" -"))
	x.is(best, nines)
	x.step("0: -" + nines + " 1/" + nines)
	x.is(best, "-"+nines)
	x.step(nines + " > 1")
	x.is(best, "1/"+nines)
	x.step("1 < 1/" + sevens)
	x.is(best, "1/"+nines)
	x.step("0: - 1/" + sevens)
	x.is(best, "1/"+nines)
	x.step("0: " + sevens + " " + nines)
	x.is(none, "")
	x.step("0: 1/" + nines + " " + nines)
	x.is(best, "1/"+nines)
	if x.bounds(0, nines+"9", "") || x.bounds(0, "", "1/"+nines+"9") || x.row(row(nines+"9 > 1")) || x.row(row("1 > "+nines+"9")) {
		t.Error("P17.1: 2001 digits are taken")
	}
	x.is(best, "1/"+nines)
}

// Where an answer can be read, it is not told in numbers too long for that, even if
// what is now is near to where there were no others.
func TestAnswersThatCanBeRead(t *testing.T) {
	p, q := digits("9", 1500), digits("7", 1499)+"1"
	l := cols("0 1 1,0 - -,0 - -", "-1 "+p+" 0 = 0", "0 -1 "+q+" = 0")
	s, a, ok := dual.New(l)
	if !ok || a.Status != best || len(a.X[2]) < 2900 {
		t.Errorf("P17.1: of an X that can't be read it is %s, %v", brief(a), ok)
	}
	l.Cols[0].Low = "0"
	x := &asked{t, "an X", s, l, api.Answer{}}
	x.step("0: 0 1")
	x.is(best, "0")
	x.step("0: 0 0")
	x.is(best, "0")

	l = cols("1 - -,0 - -,0 - -", "1 -"+p+" 0 > 0", "0 1 -"+q+" > 0", "0 0 1 > 0")
	s, a, ok = dual.New(l)
	if !ok || a.Status != best || len(a.Dual[2]) < 2900 {
		t.Errorf("P17.1: of a Dual that can't be read it is %s, %v", brief(a), ok)
	}
	x = &asked{t, "a Dual", s, l, api.Answer{}}
	x.step("2: 0 -")
	x.is(best, "0")
	if _, ok := frac.Get(x.a.Dual[2]); !ok {
		t.Errorf("P17.1: Dual is %s", brief(x.a.Dual))
	}
	// There are none that can be read: it is told all the same.
	if a, ok := s.Bounds(2, "", ""); !ok || a.Status != best || len(a.Dual[2]) < 2900 {
		t.Errorf("P17.1: of a Dual that can't be read it is %s, %v", brief(a), ok)
	}
	x.step("2: 0 9")
	x.is(best, "0")
}
