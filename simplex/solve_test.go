package simplex_test

import (
	"fmt"
	"math"
	"math/rand"
	"reflect"
	"strings"
	"testing"

	"victualler/api"
	"victualler/prob"
	"victualler/simplex"
)

const (
	best = api.SOptimal
	none = api.SInfeasible
	free = api.SUnbounded
)

func TestKnown(t *testing.T) {
	for k, x := range []struct {
		l      api.LP
		status int
		value  string
	}{
		// Without rows, without columns.
		{lp(""), best, "0"},
		{lp("", "< 0", "= 0", "> 0"), best, "0"},
		{lp("", "< 1", "> -1"), best, "0"},
		{lp("", "< -1"), none, ""},
		{lp("", "> 1"), none, ""},
		{lp("", "= 1/3"), none, ""},
		{lp("", "= -2"), none, ""},
		{lp("", "< 5", "> 5", "= 0"), none, ""},
		// One column without rows, of each sign and each pair of bounds.
		{lp("0 - -"), best, "0"}, {lp("0 2 -"), best, "0"}, {lp("0 - 2"), best, "0"}, {lp("0 1 2"), best, "0"},
		{lp("3 - -"), free, ""}, {lp("3 2 -"), best, "6"}, {lp("3 - 2"), free, ""}, {lp("3 1 2"), best, "3"},
		{lp("-3 - -"), free, ""}, {lp("-3 2 -"), free, ""}, {lp("-3 - 2"), best, "-6"}, {lp("-3 1 2"), best, "-6"},
		{lp("3 1/7 1/7"), best, "3/7"}, {lp("-3/2 -5 -5"), best, "15/2"}, {lp("1/3 -1/2 1/4"), best, "-1/6"}, {lp("-1/3 -1/2 1/4"), best, "-1/12"},
		{lp("1 0 -,-1 - 0,2 3 4,-2 3 4,0 - -"), best, "-2"},
		// One row.
		{lp("1 - -", "3 = 4"), best, "4/3"}, {lp("1 - -", "3 > 4"), best, "4/3"}, {lp("1 - -", "3 < 4"), free, ""},
		{lp("-1 - -", "3 < 4"), best, "-4/3"}, {lp("-1 - -", "-3 > 4"), best, "4/3"}, {lp("-1 - -", "3 > 4"), free, ""},
		{lp("1 0 1", "1 > 2"), none, ""}, {lp("1 0 1", "1 < -1"), none, ""}, {lp("1 0 1", "1 = 2"), none, ""}, {lp("1 0 1", "1 = 1"), best, "1"}, {lp("-1 0 1", "1 = 0"), best, "0"},
		{lp("5 2 2", "1 = 2"), best, "10"}, {lp("5 2 2", "1 = 3"), none, ""}, {lp("5 2 2", "1 < 1"), none, ""}, {lp("5 2 2", "2 > 4"), best, "10"},
		{lp("1 0 -,1 0 -", "2 1 > 4"), best, "2"}, {lp("1 0 -,1 0 -", "1/2 1/3 > 1/5"), best, "2/5"}, {lp("2 0 -,3 0 -", "1 1 > 3"), best, "6"},
		{lp("2 0 2,3 0 -", "1 1 > 3"), best, "7"}, {lp("2 0 2,3 0 2", "1 1 > 5"), none, ""},
		{lp("-1 0 -,0 0 -", "1 -1 < 3"), free, ""}, {lp("1 - -,2 - -", "1 1 = 2"), free, ""}, {lp("2 - -,2 - -", "1 1 = 2"), best, "4"},
		// A row that has no Coef, among others.
		{lp("1 1 -", "0 < 0"), best, "1"}, {lp("1 1 -", "0 > 1"), none, ""}, {lp("-1 1 -", "0 = -1"), none, ""}, {lp("-1 1 -", "0 > -1"), free, ""},
		// More rows that meet, that are the same, that exclude one another.
		{lp("1 - -,1 - -", "1 1 = 2", "1 1 = 3"), none, ""},
		{lp("1 - -,1 - -", "1 1 = 2", "2 2 = 4"), best, "2"},
		{lp("1 - -,1 - -", "1 1 > 2", "1 1 < 1"), none, ""},
		{lp("-1 0 -,-1 0 -", "3 2 < 6", "2 5 < 10"), best, "-28/11"},
		{lp("-1 0 -,-1 0 -", "1 1 < 1", "1 1 < 1", "2 2 < 2", "1 0 < 1", "0 1 < 1"), best, "-1"},
		{lp("0 0 -,-1 - 0", "1 0 > 2", "1 1 = 1"), best, "1"},
		{lp("1 - -,1 - -", "1 2 > 3", "2 1 > 3", "1 -1 > -1", "1 -1 < 1"), best, "2"},
		{lp("0 - -,0 - -,1 - -", "1 1 1 > 1", "-1 1 1 > 1", "1 -1 1 > 1", "-1 -1 1 > 1"), best, "1"},
		// Nothing fits, though the costs alone would go below all.
		{lp("-1 0 -,-1 0 -", "1 -1 < -1", "-1 1 < -1"), none, ""},
		{lp("-1 - -,1 - -", "1 1 = 1", "1 1 = 2"), none, ""},
		// A corner is there, and from there it goes below all.
		{lp("-1 0 -,-1 0 -", "1 -1 < 1", "-1 1 < 1"), free, ""},
		{lp("0 - -,-1 0 -", "1 -1 = 0"), free, ""},
		{lp("1 - -,-1 - -", "1 0 > 5", "0 1 < 7", "1 -1 < 1"), best, "-2"},
		// Programs in which steps that lead nowhere go round: Beale's, Kuhn's, and
		// that of Marshall and Suurballe.
		{lp("-3/4 0 -,150 0 -,-1/50 0 -,6 0 -", "1/4 -60 -1/25 9 < 0", "1/2 -90 -1/50 3 < 0", "0 0 1 0 < 1"), best, "-1/20"},
		{lp("-2 0 -,-3 0 -,1 0 -,12 0 -", "-2 -9 1 9 < 0", "1/3 1 -1/3 -2 < 0", "2 3 -1 -12 < 2"), best, "-2"},
		{lp("-10 0 -,57 0 -,9 0 -,24 0 -", "1/2 -11/2 -5/2 9 < 0", "1/2 -3/2 -1/2 1 < 0", "1 0 0 0 < 1"), best, "-1"},
		{lp("-2 0 -,-3 0 -,1 0 -,12 0 -", "-2 -9 1 9 < 0", "1/3 1 -1/3 -2 < 0"), free, ""},
	} {
		is(t, fmt.Sprint("known ", k), x.l, x.status, x.value)
	}
}

// Of a program with one point alone X is told.
func TestOnePoint(t *testing.T) {
	for _, x := range []struct {
		l    api.LP
		want []string
	}{
		{lp("1 0 -,1 0 -", "2 1 > 4", "1 3 > 6"), []string{"6/5", "8/5"}},
		{lp("0 - -,0 - -", "1 1 = 1", "1 -1 = 1/3"), []string{"2/3", "1/3"}},
		{lp("0 5 5,0 -1/2 -1/2"), []string{"5", "-1/2"}},
		{lp("-3 1 4,2 -5 9"), []string{"4", "-5"}},
		{lp("1 - -,0 3 3", "4 1 > 0"), []string{"-3/4", "3"}},
	} {
		if a := solved(t, "one point", x.l); a.Status != best || strings.Join(a.X, " ") != strings.Join(x.want, " ") {
			t.Errorf("P16.1: X is %v, not %v", a.X, x.want)
		}
	}
}

// A whole number's column is as any other.
func TestIntCountsForNothing(t *testing.T) {
	d := dice(1)
	for range 300 {
		l := thrown(&d, d.below(5), d.below(5))
		want := solved(t, "no Int", l)
		for k := range l.Cols {
			l.Cols[k].Int = d.below(2) == 0
		}
		if got := solved(t, "Int", l); !reflect.DeepEqual(got, want) {
			t.Fatalf("P16.1: with Ints Solve is %v, not %v", got, want)
		}
	}
	l := lp("5 0 1", "2 = 1")
	l.Cols[0].Int = true
	is(t, "half an Int", l, best, "5/2")
	l = lp("1 - -", "3 > 1", "3 < 2")
	l.Cols[0].Int = true
	is(t, "no whole number between", l, best, "1/3")
}

// good is a program that may be.
func good() api.LP {
	return lp("1 0 -,-2/3 - 4,0 -1 1", "1 1 0 < 3", "0 2 -1/2 > 1", "1 1 1 = 2")
}

// What prob.May refuses is zero, false: each wrong at each place.
func TestWhatMayNotBe(t *testing.T) {
	texts := []string{"", "x", " 1", "1 ", "+1", "01", "-0", "2/4", "1/1", "1/0", "0.5", "1e3", "--1", "1/-2", "\x00", strings.Repeat("9", 2001), "1/" + strings.Repeat("7", 2001)}
	wrongs := map[string]func(l *api.LP){}
	for _, s := range texts {
		for k := range 3 {
			wrongs[fmt.Sprint("cost ", k, s)] = func(l *api.LP) { l.Cols[k].Cost = s }
			wrongs[fmt.Sprint("right side ", k, s)] = func(l *api.LP) { l.Rows[k].Rhs = s }
			wrongs[fmt.Sprint("coefficient ", k, s)] = func(l *api.LP) { l.Rows[k].Coef[1].V = s }
			if s != "" {
				wrongs[fmt.Sprint("low ", k, s)] = func(l *api.LP) { l.Cols[k].Low = s }
				wrongs[fmt.Sprint("up ", k, s)] = func(l *api.LP) { l.Cols[k].Up = s }
			}
		}
	}
	for k := range 3 {
		for _, n := range []int{math.MinInt, -1, 0, 4, math.MaxInt} {
			wrongs[fmt.Sprint("kind ", k, n)] = func(l *api.LP) { l.Rows[k].Kind = n }
		}
		for _, n := range []int{math.MinInt, -1, 3, 100, math.MaxInt} {
			wrongs[fmt.Sprint("column ", k, n)] = func(l *api.LP) { l.Rows[k].Coef[0].Col = n }
			wrongs[fmt.Sprint("last column ", k, n)] = func(l *api.LP) { l.Rows[k].Coef[1].Col = n }
		}
		wrongs[fmt.Sprint("twice ", k)] = func(l *api.LP) { l.Rows[k].Coef[1].Col = l.Rows[k].Coef[0].Col }
		wrongs[fmt.Sprint("falling ", k)] = func(l *api.LP) {
			c := l.Rows[k].Coef
			c[0], c[1] = c[1], c[0]
		}
		wrongs[fmt.Sprint("nought ", k)] = func(l *api.LP) { l.Rows[k].Coef[0].V = "0" }
		wrongs[fmt.Sprint("range ", k)] = func(l *api.LP) { l.Rows[k].Range = "1" }
		wrongs[fmt.Sprint("crossed ", k)] = func(l *api.LP) { l.Cols[k].Low, l.Cols[k].Up = "1", "1/2" }
	}
	for what, spoil := range wrongs {
		l := good()
		solved(t, "good", l)
		spoil(&l)
		a, ok := simplex.Solve(l)
		if ok || !reflect.DeepEqual(a, api.Answer{}) {
			t.Errorf("P16.1: %.60q: Solve is %v, %v", what, a, ok)
		}
		if prob.May(l) {
			t.Errorf("%.60q: it may be", what)
		}
	}
}

// Names and a nil list for an empty one make no difference.
func TestWhatCountsForNothing(t *testing.T) {
	want := solved(t, "good", good())
	l := good()
	for k := range l.Cols {
		l.Cols[k].Name = "the same \x00\xff"
		l.Rows[k].Name = strings.Repeat("long ", 99)
	}
	if got := solved(t, "names", l); !reflect.DeepEqual(got, want) {
		t.Errorf("P16.1: with names it is %v, not %v", got, want)
	}
	is(t, "empty lists", api.LP{Cols: []api.Col{}, Rows: []api.Row{}}, best, "0")
	is(t, "nil lists", api.LP{}, best, "0")
	is(t, "no Coefs", api.LP{Rows: []api.Row{{Kind: api.RMore, Rhs: "0", Coef: []api.Coef{}}, {Kind: api.RMore, Rhs: "0"}}}, best, "0")
	is(t, "no Coefs", api.LP{Rows: []api.Row{{Kind: api.RMore, Rhs: "1", Coef: []api.Coef{}}}}, none, "")
}

// All programs of one column and one row, and of two columns and one, with a few
// numbers.
func TestSmallOnes(t *testing.T) {
	bounds := []string{"", "-1", "0", "1/2"}
	var cols []api.Col
	for _, cost := range []string{"-1", "0", "2/3"} {
		for _, low := range bounds {
			for _, up := range bounds {
				if c := (api.Col{Cost: cost, Low: low, Up: up}); prob.May(api.LP{Cols: []api.Col{c}}) {
					cols = append(cols, c)
				}
			}
		}
	}
	var rows []api.Row
	for kind := api.RLess; kind <= api.RMore; kind++ {
		for _, rhs := range []string{"-1/3", "0", "1"} {
			for _, cs := range [][]string{{}, {"1"}, {"-2"}, {"0", "1"}, {"1", "1"}, {"1", "-1/2"}} {
				rows = append(rows, api.Row{Kind: kind, Rhs: rhs, Coef: coefs(cs)})
			}
		}
	}
	var seen [4]int
	for _, first := range cols {
		for _, second := range append(cols, api.Col{}) {
			l := api.LP{Cols: []api.Col{first, second}}
			if second == (api.Col{}) {
				l.Cols = l.Cols[:1]
			}
			for _, r := range rows {
				l.Rows = []api.Row{r}
				if prob.May(l) {
					seen[solved(t, "a small one", l).Status]++
				}
			}
		}
	}
	if seen[best] < 5000 || seen[none] < 5000 || seen[free] < 5000 {
		t.Errorf("the Statuses are %v", seen)
	}
}

// All with two columns and two rows of some numbers.
func TestTwoRows(t *testing.T) {
	numbers := []string{"-1", "0", "1"}
	var rows []api.Row
	for kind := api.RLess; kind <= api.RMore; kind++ {
		for _, rhs := range numbers {
			for _, v := range numbers {
				for _, w := range numbers {
					rows = append(rows, api.Row{Kind: kind, Rhs: rhs, Coef: coefs([]string{v, w})})
				}
			}
		}
	}
	for k, r := range rows {
		for _, s := range rows[k:] {
			for _, cols := range []string{"1 0 -,-1 0 -", "-1 - -,2 0 1", "1 - 0,1 0 -"} {
				l := lp(cols)
				l.Rows = []api.Row{r, s}
				solved(t, "two rows", l)
			}
		}
	}
}

// thrown is a program of small numbers, most of its columns with bounds.
func thrown(d *dice, cols, rows int) api.LP {
	var l api.LP
	for range cols {
		c := api.Col{Cost: number(d, 5)}
		low := d.below(9) - 5
		if d.below(4) > 0 {
			c.Low = fmt.Sprint(low)
		}
		if d.below(3) > 0 {
			c.Up = fmt.Sprint(low + d.below(6))
		}
		l.Cols = append(l.Cols, c)
	}
	for range rows {
		r := api.Row{Kind: 1 + d.below(3), Rhs: number(d, 12)}
		dense := d.below(4)
		for k := range cols {
			if v := number(d, 4); v != "0" && d.below(4) >= dense {
				r.Coef = append(r.Coef, api.Coef{Col: k, V: v})
			}
		}
		l.Rows = append(l.Rows, r)
	}
	return l
}

// number is a text of -size to size, now and then a fraction.
func number(d *dice, size int) string {
	n, over := d.below(2*size+1)-size, 1
	if d.below(4) == 0 {
		over = 1 + d.below(6)
	}
	return rational(n, over)
}

func TestThrown(t *testing.T) {
	d := dice(2)
	var seen [4]int
	for range 6000 {
		l := thrown(&d, d.below(7), d.below(8))
		seen[solved(t, "a thrown one", l).Status]++
	}
	if seen[best] < 500 || seen[none] < 500 || seen[free] < 500 {
		t.Errorf("the Statuses are %v", seen)
	}
}

func TestGreaterThrown(t *testing.T) {
	d := dice(3)
	var seen [4]int
	for range 300 {
		l := thrown(&d, 5+d.below(25), d.below(30))
		seen[solved(t, "a thrown one", l).Status]++
	}
	if seen[best] < 20 || seen[none] < 20 || seen[free] < 20 {
		t.Errorf("the Statuses are %v", seen)
	}
}

// However the rows and columns stand, and by whatever factor above 0 a row is
// written, Status and Value are the same.
func TestOrderAndFactors(t *testing.T) {
	d := dice(4)
	r := rand.New(rand.NewSource(4))
	for range 400 {
		l := thrown(&d, 1+d.below(6), 1+d.below(7))
		want := solved(t, "a thrown one", l)
		places := r.Perm(len(l.Cols))
		m := api.LP{Cols: make([]api.Col, len(l.Cols))}
		for k, at := range places {
			m.Cols[at] = l.Cols[k]
		}
		for _, k := range r.Perm(len(l.Rows)) {
			f := rat(rational(1+d.below(9), 1+d.below(9)))
			texts := make([]string, len(l.Cols))
			for j := range texts {
				texts[j] = "0"
			}
			for _, c := range l.Rows[k].Coef {
				v := rat(c.V)
				texts[places[c.Col]] = v.Mul(v, f).RatString()
			}
			rhs := rat(l.Rows[k].Rhs)
			m.Rows = append(m.Rows, api.Row{Kind: l.Rows[k].Kind, Rhs: rhs.Mul(rhs, f).RatString(), Coef: coefs(texts)})
		}
		is(t, "the same in another order", m, want.Status, want.Value)
	}
}

// Whatever the texts are, the call ends, and answers what is right just if the
// program may be.
func FuzzSolve(f *testing.F) {
	f.Add("1", "0", "", "-2/3", "", "4", 1, "1", "1", "3", 3, 0, "2", "-1/2", "1")
	f.Add("x", "1/2", "0", "0", "-1", "1", 2, "0", "1", "01", 4, -1, "18446744073709551616", "1/0", "")
	f.Add("-1", "", "", "1/18446744073709551617", "0", "0", 2, "3", "-3", "1", 2, 1, "1", "2", "1/7")
	f.Fuzz(func(t *testing.T, cost, low, up, cost2, low2, up2 string, kind int, v, v2, rhs string, kind2, col int, w, w2, rhs2 string) {
		l := api.LP{
			Cols: []api.Col{{Cost: cost, Low: low, Up: up}, {Cost: cost2, Low: low2, Up: up2}},
			Rows: []api.Row{
				{Kind: kind, Rhs: rhs, Coef: []api.Coef{{Col: 0, V: v}, {Col: 1, V: v2}}},
				{Kind: kind2, Rhs: rhs2, Coef: []api.Coef{{Col: col, V: w}}},
				{Kind: api.RLess, Rhs: rhs2, Coef: []api.Coef{{Col: 1, V: w2}}},
			},
		}
		a, ok := simplex.Solve(l)
		if ok != prob.May(l) || !ok && !reflect.DeepEqual(a, api.Answer{}) {
			t.Fatalf("P16.1: Solve is %v, %v", a, ok)
		}
		if ok && wrong(l, a) != "" {
			t.Fatalf("P16.1: Solve is %v: %s", a, wrong(l, a))
		}
	})
}
