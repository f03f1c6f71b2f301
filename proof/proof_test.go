package proof_test

import (
	"fmt"
	"math"
	"math/big"
	"reflect"
	"slices"
	"strconv"
	"strings"
	"testing"

	"victualler/api"
	"victualler/prob"
	"victualler/proof"
	"victualler/simplex"
)

const (
	best = api.SOptimal
	none = api.SInfeasible
	free = api.SUnbounded
)

// lp lays a program: "cost low up" of each column, parted by commas, - for a bound
// that is none; then rows: their numbers by columns, <, = or >, the right side.
func lp(cols string, rows ...string) api.LP {
	var l api.LP
	for c := range strings.SplitSeq(cols, ",") {
		if w := strings.Fields(c); len(w) > 0 {
			l.Cols = append(l.Cols, api.Col{Cost: w[0], Low: strings.TrimSuffix(w[1], "-"), Up: strings.TrimSuffix(w[2], "-")})
		}
	}
	for _, text := range rows {
		w := strings.Fields(text)
		at := len(w) - 2
		r := api.Row{Kind: strings.Index("<=>", w[at]) + 1, Rhs: w[at+1]}
		for k, s := range w[:at] {
			if s != "0" {
				r.Coef = append(r.Coef, api.Coef{Col: k, V: s})
			}
		}
		l.Rows = append(l.Rows, r)
	}
	return l
}

// answer has lists of words, parted by blanks.
func answer(status int, value, x, dual, ray string) api.Answer {
	return api.Answer{Status: status, Value: value, X: strings.Fields(x), Dual: strings.Fields(dual), Ray: strings.Fields(ray)}
}

func TestKnown(t *testing.T) {
	two := lp("2 0 2,3 0 -", "1 1 > 3")
	tight := lp("2 0 2,3 0 1", "1 1 > 4", "1 0 < 2")
	open := lp("-1 0 -,0 0 -", "1 -1 < 3")
	for k, c := range []struct {
		l    api.LP
		a    api.Answer
		want bool
	}{
		{two, answer(best, "7", "2 1", "3", ""), true},
		{two, answer(best, "7", "2 1", "2", ""), false},       // another Bound
		{two, answer(best, "7", "2 1", "4", ""), false},       // no Bound
		{two, answer(best, "7", "2 1", "", ""), false},        // not so many
		{two, answer(best, "7", "2 1", "3 0", ""), false},     // too many
		{two, answer(best, "7", "2 1", "x", ""), false},       // no number
		{two, answer(best, "7", "2 1", "6/2", ""), false},     // not in lowest terms
		{two, answer(best, "7", "1/2 2", "3", ""), false},     // has the Value, does not keep the row
		{two, answer(best, "8", "1 2", "3", ""), false},       // fits, and has that Value
		{two, answer(best, "6", "3 0", "3", ""), false},       // beyond its bounds
		{two, answer(best, "7", "7/2 0", "3", ""), false},     // has the Value, beyond its bounds
		{two, answer(best, "6", "0 2", "2", ""), false},       // has the Bound, does not keep the row
		{two, answer(best, "7", "2", "3", ""), false},         // not so many
		{two, answer(best, "7", "2 1 0", "3", ""), false},     // too many
		{two, answer(best, "7", "2 01", "3", ""), false},      // no number
		{two, answer(best, "14/2", "2 1", "3", ""), false},    // not frac.Text
		{two, answer(best, "+7", "2 1", "3", ""), false},      // not frac.Text
		{two, answer(best, "07", "2 1", "3", ""), false},      // not frac.Text
		{two, answer(best, "7/1", "2 1", "3", ""), false},     // not frac.Text
		{two, answer(best, "", "2 1", "3", ""), false},        // no Value
		{two, answer(best, "8", "2 1", "3", ""), false},       // another one
		{two, answer(best, "7", "2 1", "3", "0 0"), false},    // a Ray
		{two, answer(best, "7", "2 1", "3", "x"), false},      // a Ray
		{two, answer(none, "", "", "3", ""), false},           // another Status
		{two, answer(free, "", "2 1", "", "1 1"), false},      // another Status
		{two, answer(none, "7", "2 1", "3", ""), false},       // another Status
		{tight, answer(none, "", "", "1 0", ""), true},        // without the other row
		{tight, answer(none, "", "", "1 -1", ""), true},       // with it
		{tight, answer(none, "", "", "1/9 0", ""), true},      // any multiple
		{tight, answer(none, "", "", "0 0", ""), false},       // of 0
		{tight, answer(none, "", "", "-1 0", ""), false},      // a wrong sign
		{tight, answer(none, "", "", "1 1", ""), false},       // a wrong sign
		{tight, answer(none, "", "", "1", ""), false},         // not so many
		{tight, answer(none, "", "", "0 -1", ""), false},      // below 0
		{tight, answer(none, "", "", "", ""), false},          // not so many
		{tight, answer(none, "", "", "1 y", ""), false},       // no number
		{tight, answer(none, "0", "", "1 0", ""), false},      // a Value
		{tight, answer(none, "", "0", "1 0", ""), false},      // an X
		{tight, answer(none, "", "", "1 0", "0"), false},      // a Ray
		{tight, answer(best, "7", "2 1", "3 0", ""), false},   // another Status
		{tight, answer(best, "8", "2 4/3", "1 0", ""), false}, // another Status
		{open, answer(free, "", "0 0", "", "1 1"), true},
		{open, answer(free, "", "3 0", "", "1/2 7"), true},      // any way
		{open, answer(free, "", "4 0", "", "1 1"), false},       // does not keep the row
		{open, answer(free, "", "-1 0", "", "1 1"), false},      // beyond its bounds
		{open, answer(free, "", "0", "", "1 1"), false},         // not so many
		{open, answer(free, "", "", "", "1 1"), false},          // not so many
		{open, answer(free, "", "0 0", "", "1 0"), false},       // the row goes up
		{open, answer(free, "", "0 0", "", "0 1"), false},       // the costs don't go down
		{open, answer(free, "", "0 0", "", "1 -1"), false},      // a bound
		{open, answer(free, "", "0 0", "", "1"), false},         // not so many
		{open, answer(free, "", "0 0", "", ""), false},          // not so many
		{open, answer(free, "", "0 0", "", "1 1 1"), false},     // too many
		{open, answer(free, "", "0 0", "", "2/2 1"), false},     // no number
		{open, answer(free, "0", "0 0", "", "1 1"), false},      // a Value
		{open, answer(free, "", "0 0", "0", "1 1"), false},      // a Dual
		{open, answer(free, "", "0 0", "x", "1 1"), false},      // a Dual
		{open, answer(best, "-3", "3 0", "-1", ""), false},      // another Status
		{open, answer(none, "", "", "-1", ""), false},           // another Status
		{lp(""), answer(best, "0", "", "", ""), true},           // nothing at all
		{lp(""), answer(none, "", "", "", ""), false},           // 0 is not above 0
		{lp(""), answer(free, "", "", "", ""), false},           // costs don't go down
		{lp("", "> 1"), answer(none, "", "", "1", ""), true},    // a row alone
		{lp("", "> 1"), answer(best, "0", "", "0", ""), false},  // is not kept
		{lp("", "< 1"), answer(best, "0", "", "0", ""), true},   // is kept
		{lp("", "< 1"), answer(best, "0", "", "-1", ""), false}, // another Bound
		{lp("", "= -2"), answer(none, "", "", "-1/3", ""), true},
		{lp("", "= -2"), answer(none, "", "", "1/3", ""), false},
	} {
		if got := proof.Check(c.l, c.a); got != c.want {
			t.Errorf("P18.1, %d: Check(%v, %v) is %v", k, c.l, c.a, got)
		}
	}
}

// Other States are none, whatever is told beside them.
func TestOtherStates(t *testing.T) {
	l := lp("2 0 2,3 0 -", "1 1 > 3")
	for _, status := range []int{math.MinInt, -1, 0, api.SSpent, 5, 6, math.MaxInt} {
		for _, a := range []api.Answer{{}, answer(0, "7", "2 1", "3", ""), answer(0, "", "", "1", ""), answer(0, "", "2 1", "", "1 1")} {
			a.Status = status
			if proof.Check(l, a) || proof.Check(lp("1 0 -"), a) || proof.Check(lp(""), a) {
				t.Errorf("P18.1: Check takes Status %d", status)
			}
		}
	}
}

// An empty list is as a nil one, where there is to be none.
func TestEmptyLists(t *testing.T) {
	for _, l := range []api.LP{lp("2 0 2,3 0 -", "1 1 > 3"), lp("1 0 1", "1 > 2"), lp("-1 0 -,0 0 -", "1 -1 < 3"), lp("")} {
		a, _ := simplex.Solve(l)
		for _, list := range []*[]string{&a.X, &a.Dual, &a.Ray} {
			if len(*list) > 0 {
				continue
			}
			for _, is := range [][]string{nil, {}} {
				*list = is
				if !proof.Check(l, a) {
					t.Errorf("P0.4: Check does not take %#v", a)
				}
			}
			for _, is := range [][]string{{""}, {"0"}, {"x", "y"}} {
				*list = is
				if proof.Check(l, a) {
					t.Errorf("P18.1: Check takes %#v", a)
				}
			}
			*list = nil
		}
	}
}

// Of a program that may not be nothing is so.
func TestWhatMayNotBe(t *testing.T) {
	answers := []api.Answer{answer(best, "0", "0", "0", ""), answer(none, "", "", "1", ""), answer(free, "", "0", "", "-1"), answer(best, "0", "", "", ""), {}}
	for k, l := range []api.LP{lp("x 0 1", "1 > 0"), lp("0 1 0", "1 > 0"), lp("0 0 1", "1 1 > 0"), lp("0 0 1", "1 > x"), lp("0 0 1", "2/2 > 0"), lp("1 - -", "0/3 < 1"), lp("0 0 y", "1 > 2")} {
		for _, a := range answers {
			if prob.May(l) || proof.Check(l, a) {
				t.Errorf("P18.1, %d: Check takes %v of %v", k, a, l)
			}
		}
	}
	for _, spoil := range []func(l *api.LP){
		func(l *api.LP) { l.Rows[0].Kind = 0 },
		func(l *api.LP) { l.Rows[0].Kind = 4 },
		func(l *api.LP) { l.Rows[0].Range = "1" },
		func(l *api.LP) { l.Rows[0].Coef[0].Col = 1 },
		func(l *api.LP) { l.Rows[0].Coef[0].V = "" },
		func(l *api.LP) { l.Rows = slices.Repeat(l.Rows, 441) },
	} {
		l := lp("0 0 0", "1 > 0")
		if !proof.Check(l, answers[0]) {
			t.Fatal("P18.1: Check does not take what is so")
		}
		spoil(&l)
		zero := answer(best, "0", "0", strings.Repeat("0 ", len(l.Rows)), "")
		if proof.Check(l, zero) {
			t.Errorf("P18.1: Check takes what may not be: %d rows", len(l.Rows))
		}
	}
	wide := api.LP{}
	for range 101 {
		wide.Cols = append(wide.Cols, api.Col{Cost: "0", Low: "0"})
	}
	if proof.Check(wide, answer(best, "0", strings.Repeat("0 ", 101), "", "")) {
		t.Error("P18.1: Check takes 101 columns")
	}
	wide.Cols = wide.Cols[1:]
	wide.Rows = slices.Repeat([]api.Row{{Kind: api.REqual, Rhs: "0"}}, 440)
	if !proof.Check(wide, answer(best, "0", strings.Repeat("0 ", 100), strings.Repeat("0 ", 440), "")) {
		t.Error("P18.1: Check does not take 100 columns and 440 rows")
	}
}

// A Bound and a Value may be longer than the texts that frac.Get takes.
func TestLongNumbers(t *testing.T) {
	p, q := strings.Repeat("9", 1990), strings.Repeat("7", 1989)+"1"
	l := lp("1/"+p+" 1 -,1/"+q+" 1 -", "1 0 < "+q)
	a, _ := simplex.Solve(l)
	if len(a.Value) < 2500 || !proof.Check(l, a) {
		t.Errorf("P18.1: Check does not take a Value of %d bytes", len(a.Value))
	}
	a.Value = strings.Replace(a.Value, "1", "2", 1)
	if proof.Check(l, a) {
		t.Error("P18.1: Check takes another Value")
	}
	l = lp("1 0 -", "1 < -1/"+p, "1 > 1/"+q)
	bound, _ := prob.Bound(l, []string{"-1", "1"}, false)
	if len(bound) < 2500 || !proof.Check(l, answer(none, "", "", "-1 1", "")) {
		t.Errorf("P18.1: Check does not take a Bound of %d bytes", len(bound))
	}
	l = lp("1 0 1", "1 > 1/"+p, "1 > -1/"+q)
	bound, _ = prob.Bound(l, []string{"1", "1"}, false)
	if !strings.HasPrefix(bound, "-") || len(bound) < 2500 || proof.Check(l, answer(none, "", "", "1 1", "")) {
		t.Error("P18.1: Check takes a Bound below 0")
	}
}

// dice throws numbers that are the same in every run.
type dice uint64

func (d *dice) below(n int) int {
	*d = *d*6364136223846793005 + 1442695040888963407
	return int(*d>>33) % n
}

// thrown is a program of small numbers.
func thrown(d *dice) api.LP {
	var l api.LP
	for range 1 + d.below(3) {
		c := api.Col{Cost: strconv.Itoa(d.below(7) - 3), Int: d.below(2) == 0}
		low := d.below(5) - 2
		if d.below(4) > 0 {
			c.Low = strconv.Itoa(low)
		}
		if d.below(3) > 0 {
			c.Up = strconv.Itoa(low + d.below(4))
		}
		l.Cols = append(l.Cols, c)
	}
	for range d.below(4) {
		r := api.Row{Kind: 1 + d.below(3), Rhs: strconv.Itoa(d.below(9) - 4)}
		for k := range l.Cols {
			if v := d.below(5) - 2; v != 0 {
				r.Coef = append(r.Coef, api.Coef{Col: k, V: strconv.Itoa(v)})
			}
		}
		l.Rows = append(l.Rows, r)
	}
	return l
}

// points are many lists of so many small halves.
func points(count int) [][]string {
	list := [][]string{nil}
	for range count {
		var longer [][]string
		for _, x := range list {
			for n := -8; n <= 8; n++ {
				longer = append(longer, append(slices.Clone(x), big.NewRat(int64(n), 2).RatString()))
			}
		}
		list = longer
	}
	return list
}

// What simplex tells is taken; what is changed in it is taken only if it proves as
// much: a point that fits is nowhere worth less than what is taken as best, none
// fits where it is taken that none does, and one that is taken to go below all does
// fit, however far it goes.
func TestProofs(t *testing.T) {
	d := dice(1)
	var seen [4]int
	for range 400 {
		l := thrown(&d)
		a, ok := simplex.Solve(l)
		if !ok || !proof.Check(l, a) {
			t.Fatalf("P18.1: Check does not take %v of %v", a, l)
		}
		seen[a.Status]++
		var fitting [][]string
		for _, x := range points(min(2, len(l.Cols))) {
			for len(x) < len(l.Cols) {
				x = append(x, strconv.Itoa(d.below(5)-2))
			}
			if prob.Fits(l, x) {
				fitting = append(fitting, x)
			}
		}
		proves(t, l, a, fitting)
		for range 60 {
			if b := changed(&d, l, a, fitting); proof.Check(l, b) {
				if b.Status != a.Status || b.Value != a.Value {
					t.Fatalf("V2: of %v Check takes %v and %v", l, a, b)
				}
				proves(t, l, b, fitting)
			}
		}
	}
	if seen[best] < 40 || seen[none] < 40 || seen[free] < 40 {
		t.Errorf("the Statuses are %v", seen)
	}
}

func proves(t *testing.T, l api.LP, a api.Answer, fitting [][]string) {
	t.Helper()
	rat := func(s string) *big.Rat {
		x, _ := new(big.Rat).SetString(s)
		return x
	}
	switch a.Status {
	case best:
		for _, x := range fitting {
			if v, _ := prob.Value(l, x); rat(v).Cmp(rat(a.Value)) < 0 {
				t.Fatalf("V2: of %v %v is worth less than %v", l, x, a)
			}
		}
	case none:
		if len(fitting) > 0 {
			t.Fatalf("V2: of %v %v fits", l, fitting[0])
		}
	case free:
		before := rat("1000000")
		for _, far := range []int64{0, 1, 7, 1000} {
			x := slices.Clone(a.X)
			for k, step := range a.Ray {
				s := new(big.Rat).Mul(rat(step), big.NewRat(far, 1))
				x[k] = s.Add(s, rat(x[k])).RatString()
			}
			v, _ := prob.Value(l, x)
			if !prob.Fits(l, x) || rat(v).Cmp(before) >= 0 {
				t.Fatalf("V2: of %v %v does not fit, or is worth %s", l, x, v)
			}
			before = rat(v)
		}
	}
}

// changed is an answer that is another one in a field or two.
func changed(d *dice, l api.LP, a api.Answer, fitting [][]string) api.Answer {
	a.X, a.Dual, a.Ray = slices.Clone(a.X), slices.Clone(a.Dual), slices.Clone(a.Ray)
	thrown := func(n int) (list []string) {
		for range n {
			list = append(list, big.NewRat(int64(d.below(9)-4), int64(1+d.below(2))).RatString())
		}
		return list
	}
	for range 1 + d.below(2) {
		switch d.below(8) {
		case 0:
			a.Status = d.below(5)
		case 1:
			a.Value = big.NewRat(int64(d.below(41)-20), int64(1+d.below(3))).RatString()
		case 2:
			a.X = thrown(len(l.Cols))
		case 3:
			a.Dual = thrown(len(l.Rows))
		case 4:
			a.Ray = thrown(len(l.Cols))
		case 5:
			if len(fitting) > 0 {
				a.X = slices.Clone(fitting[d.below(len(fitting))])
				a.Value, _ = prob.Value(l, a.X)
			}
		case 6:
			a.Dual = thrown(len(l.Rows))
			a.Value, _ = prob.Bound(l, a.Dual, true)
		case 7:
			if n := len(a.Dual); n > 0 {
				a.Dual[d.below(n)] = strconv.Itoa(d.below(7) - 3)
			}
		}
	}
	return a
}

// What is handed in is neither changed nor kept.
func TestMemory(t *testing.T) {
	for _, l := range []api.LP{lp("2 0 2,3 0 -", "1 1 > 3"), lp("1 0 1", "1 > 2"), lp("-1 0 -,0 0 -", "1 -1 < 3")} {
		a, _ := simplex.Solve(l)
		for _, list := range []*[]string{&a.X, &a.Dual, &a.Ray} {
			*list = append(slices.Clip(*list), "spare", "spare")[:len(*list)]
		}
		text := func() string {
			return fmt.Sprintf("%v %q %q %q %q", l, a.Value, a.X[:cap(a.X)], a.Dual[:cap(a.Dual)], a.Ray[:cap(a.Ray)])
		}
		before := text()
		if !proof.Check(l, a) || text() != before {
			t.Errorf("P0.3: Check made %s of %s", text(), before)
		}
		b := a
		l.Rows[0].Rhs, l.Cols[0].Low, b.Dual, b.X = "-99", "50", nil, nil
		if proof.Check(l, a) || proof.Check(l, b) {
			t.Error("P0.5: Check keeps what it was told")
		}
	}
}

func FuzzCheck(f *testing.F) {
	f.Add(1, "7", "2", "1", "3", "", "")
	f.Add(2, "", "", "", "1", "", "")
	f.Add(3, "", "0", "0", "", "1", "1")
	f.Fuzz(func(t *testing.T, status int, value, x, y, dual, ray, way string) {
		a := api.Answer{Status: status, Value: value, X: []string{x, y}, Dual: []string{dual}, Ray: []string{ray, way}}
		for _, l := range []api.LP{lp("2 0 2,3 0 -", "1 1 > 3"), lp("-1 0 -,0 0 -", "1 -1 < 3"), lp("1 0 1,0 0 0", "1 1 > 2")} {
			for _, none := range []func(b *api.Answer){func(b *api.Answer) { b.Ray = nil }, func(b *api.Answer) { b.X, b.Ray = nil, nil }, func(b *api.Answer) { b.Dual = nil }} {
				b := a
				none(&b)
				want, _ := simplex.Solve(l)
				if proof.Check(l, b) && (b.Status != want.Status || b.Value != want.Value) || !reflect.DeepEqual(b.Value, value) {
					t.Fatalf("V2: of %v Check takes %v", l, b)
				}
			}
		}
	})
}
