package simplex_test

import (
	"fmt"
	"math/big"
	"slices"
	"strconv"
	"strings"
	"testing"

	"victualler/api"
	"victualler/prob"
	"victualler/simplex"
)

// What stands here says once more, on big.Rat, what an answer is to be, and lays
// programs.

// dice throws numbers that are the same in every run.
type dice uint64

func (d *dice) below(n int) int {
	*d = *d*6364136223846793005 + 1442695040888963407
	return int(*d>>33) % n
}

// rat is a text's number, however long.
func rat(s string) *big.Rat {
	x, ok := new(big.Rat).SetString(s)
	if !ok || x.RatString() != s {
		panic("no number: " + s)
	}
	return x
}

// rats reads so many numbers; false: they are not so many, or not as frac.Text
// writes them.
func rats(texts []string, count int) ([]*big.Rat, bool) {
	var xs []*big.Rat
	for _, s := range texts {
		x, ok := new(big.Rat).SetString(s)
		if !ok || x.RatString() != s {
			return nil, false
		}
		xs = append(xs, x)
	}
	return xs, len(xs) == count
}

// sum is what the Coefs come to of x.
func sum(cs []api.Coef, x []*big.Rat) *big.Rat {
	s := new(big.Rat)
	for _, c := range cs {
		s.Add(s, new(big.Rat).Mul(rat(c.V), x[c.Col]))
	}
	return s
}

func costs(l api.LP, x []*big.Rat) *big.Rat {
	s := new(big.Rat)
	for k, c := range l.Cols {
		s.Add(s, new(big.Rat).Mul(rat(c.Cost), x[k]))
	}
	return s
}

// holds tells whether a row of that kind takes a sum that stands so to its
// right side.
func holds(kind, order int) bool {
	return order == 0 || kind == api.RLess && order < 0 || kind == api.RMore && order > 0
}

func fits(l api.LP, x []*big.Rat) bool {
	for k, c := range l.Cols {
		if c.Low != "" && x[k].Cmp(rat(c.Low)) < 0 || c.Up != "" && x[k].Cmp(rat(c.Up)) > 0 {
			return false
		}
	}
	for _, r := range l.Rows {
		if !holds(r.Kind, sum(r.Coef, x).Cmp(rat(r.Rhs))) {
			return false
		}
	}
	return true
}

func goesOn(l api.LP, x []*big.Rat) bool {
	for k, c := range l.Cols {
		if c.Low != "" && x[k].Sign() < 0 || c.Up != "" && x[k].Sign() > 0 {
			return false
		}
	}
	for _, r := range l.Rows {
		if !holds(r.Kind, sum(r.Coef, x).Sign()) {
			return false
		}
	}
	return costs(l, x).Sign() < 0
}

// bound is the least that the rows by y leave for the costs; nil: there is none.
func bound(l api.LP, y []*big.Rat, with bool) *big.Rat {
	total, d := new(big.Rat), make([]*big.Rat, len(l.Cols))
	for k, c := range l.Cols {
		d[k] = new(big.Rat)
		if with {
			d[k] = rat(c.Cost)
		}
	}
	for k, r := range l.Rows {
		if r.Kind == api.RLess && y[k].Sign() > 0 || r.Kind == api.RMore && y[k].Sign() < 0 {
			return nil
		}
		total.Add(total, new(big.Rat).Mul(y[k], rat(r.Rhs)))
		for _, c := range r.Coef {
			d[c.Col].Sub(d[c.Col], new(big.Rat).Mul(y[k], rat(c.V)))
		}
	}
	for k, c := range l.Cols {
		end := c.Low
		if d[k].Sign() < 0 {
			end = c.Up
		}
		switch {
		case d[k].Sign() == 0:
		case end == "":
			return nil
		default:
			total.Add(total, new(big.Rat).Mul(d[k], rat(end)))
		}
	}
	return total
}

// wrong tells what is wrong with an answer; "": nothing.
func wrong(l api.LP, a api.Answer) string {
	x, okX := rats(a.X, len(l.Cols))
	y, okY := rats(a.Dual, len(l.Rows))
	way, okRay := rats(a.Ray, len(l.Cols))
	switch a.Status {
	case api.SOptimal:
		switch {
		case !okX || !fits(l, x):
			return "X does not fit"
		case a.Value != costs(l, x).RatString():
			return "Value is not that of X"
		case !okY:
			return "Dual has not a number of each row"
		case a.Ray != nil:
			return "an optimal one has a Ray"
		}
		if b := bound(l, y, true); b == nil || b.RatString() != a.Value {
			return "Dual's Bound is not Value"
		}
	case api.SInfeasible:
		if a.Value != "" || a.X != nil || a.Ray != nil {
			return "an infeasible one has more than Dual"
		}
		if !okY {
			return "Dual has not a number of each row"
		}
		if b := bound(l, y, false); b == nil || b.Sign() <= 0 {
			return "Dual's Bound is not above 0"
		}
	case api.SUnbounded:
		switch {
		case a.Value != "" || a.Dual != nil:
			return "an unbounded one has more than X and Ray"
		case !okX || !fits(l, x):
			return "X does not fit"
		case !okRay || !goesOn(l, way):
			return "Ray is none"
		}
	default:
		return "Status " + strconv.Itoa(a.Status)
	}
	return ""
}

// wrongByProb says the same by the chapter's words.
func wrongByProb(l api.LP, a api.Answer) bool {
	value, _ := prob.Value(l, a.X)
	with, okWith := prob.Bound(l, a.Dual, true)
	without, okWithout := prob.Bound(l, a.Dual, false)
	switch a.Status {
	case api.SOptimal:
		return !prob.Fits(l, a.X) || value != a.Value || !okWith || with != a.Value
	case api.SInfeasible:
		return !okWithout || rat(without).Sign() <= 0
	}
	return !prob.Fits(l, a.X) || !prob.Ray(l, a.Ray)
}

// solved is the answer of a program that may be, all looked at.
func solved(t *testing.T, what string, l api.LP) api.Answer {
	t.Helper()
	a, ok := simplex.Solve(l)
	if !ok {
		t.Fatalf("P16.1: %s: %.600s may be, but Solve says no", what, fmt.Sprint(l))
	}
	if w := wrong(l, a); w != "" {
		t.Fatalf("P16.1: %s: of %.600s Solve is %.600s: %s", what, fmt.Sprint(l), fmt.Sprint(a), w)
	}
	if wrongByProb(l, a) {
		t.Fatalf("P16.1: %s: prob does not take %.600s of %.600s", what, fmt.Sprint(a), fmt.Sprint(l))
	}
	return a
}

// ends holds Status, too.
func ends(t *testing.T, what string, l api.LP, status int) api.Answer {
	t.Helper()
	a := solved(t, what, l)
	if a.Status != status {
		t.Errorf("P16.1: %s: Status %d, not %d", what, a.Status, status)
	}
	return a
}

// is holds Status and Value, too.
func is(t *testing.T, what string, l api.LP, status int, value string) {
	t.Helper()
	if a := ends(t, what, l, status); a.Value != value {
		t.Errorf("P16.1: %s: Value %.100q, not %.100q", what, a.Value, value)
	}
}

// lp lays a program: "cost low up" of each column, parted by commas, - for a
// bound that is none; then rows: their Coefs, <, = or >, the right side.
func lp(cols string, rows ...string) api.LP {
	var l api.LP
	for _, c := range strings.Split(cols, ",") {
		w := strings.Fields(c)
		if len(w) == 0 {
			continue
		}
		l.Cols = append(l.Cols, api.Col{Cost: w[0], Low: strings.TrimSuffix(w[1], "-"), Up: strings.TrimSuffix(w[2], "-")})
	}
	for _, r := range rows {
		w := strings.Fields(r)
		at := slices.IndexFunc(w, func(s string) bool { return strings.Contains("<=>", s) })
		l.Rows = append(l.Rows, api.Row{Kind: strings.Index("<=>", w[at]) + 1, Coef: coefs(w[:at]), Rhs: w[at+1]})
	}
	return l
}

// coefs are those of a row that has a text for each column.
func coefs(texts []string) (cs []api.Coef) {
	for k, s := range texts {
		if s != "0" {
			cs = append(cs, api.Coef{Col: k, V: s})
		}
	}
	return cs
}

// integers are such texts.
func integers(xs []int) (texts []string) {
	for _, x := range xs {
		texts = append(texts, strconv.Itoa(x))
	}
	return texts
}

// rational is the text of n by over.
func rational(n, over int) string { return big.NewRat(int64(n), int64(over)).RatString() }
