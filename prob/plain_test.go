package prob_test

import (
	"fmt"
	"math/big"
	"strconv"
	"strings"
	"testing"

	"victualler/api"
	"victualler/prob"
)

// What stands here says the chapter's sentences once more, on big.Rat.

// number is a text's; false: it is not as frac.Text writes it.
func number(s string) (*big.Rat, bool) {
	if strings.Trim(s, "-/0123456789") != "" {
		return nil, false
	}
	upper, lower, _ := strings.Cut(strings.TrimPrefix(s, "-"), "/")
	if len(upper) > 2000 || len(lower) > 2000 {
		return nil, false
	}
	x, ok := new(big.Rat).SetString(s)
	if !ok || x.RatString() != s {
		return nil, false
	}
	return x, true
}

func rat(s string) *big.Rat {
	x, ok := number(s)
	if !ok {
		panic("no number: " + s)
	}
	return x
}

// may is what May is asked.
func may(l api.LP) bool {
	if len(l.Cols) > 100 || len(l.Rows) > 440 {
		return false
	}
	for _, c := range l.Cols {
		_, okCost := number(c.Cost)
		low, okLow := number(c.Low)
		up, okUp := number(c.Up)
		if !okCost || !okLow && c.Low != "" || !okUp && c.Up != "" || okLow && okUp && low.Cmp(up) > 0 {
			return false
		}
	}
	for _, r := range l.Rows {
		if _, ok := number(r.Rhs); !ok || r.Range != "" || r.Kind != 1 && r.Kind != 2 && r.Kind != 3 {
			return false
		}
		for k, c := range r.Coef {
			if v, ok := number(c.V); !ok || v.Sign() == 0 || c.Col < 0 || c.Col >= len(l.Cols) || k > 0 && c.Col <= r.Coef[k-1].Col {
				return false
			}
		}
	}
	return true
}

// numbers reads so many; false: they are not that many numbers.
func numbers(texts []string, count int) ([]*big.Rat, bool) {
	var xs []*big.Rat
	for _, s := range texts {
		x, ok := number(s)
		if !ok {
			return nil, false
		}
		xs = append(xs, x)
	}
	return xs, len(xs) == count
}

// products are the sum of x by y.
func products(x, y []*big.Rat) *big.Rat {
	sum := new(big.Rat)
	for k := range x {
		sum.Add(sum, new(big.Rat).Mul(x[k], y[k]))
	}
	return sum
}

// full are a row's Coefs, with noughts.
func full(r api.Row, cols int) []*big.Rat {
	all := make([]*big.Rat, cols)
	for k := range all {
		all[k] = new(big.Rat)
	}
	for _, c := range r.Coef {
		all[c.Col] = rat(c.V)
	}
	return all
}

func costsOf(l api.LP) []*big.Rat {
	var all []*big.Rat
	for _, c := range l.Cols {
		all = append(all, rat(c.Cost))
	}
	return all
}

// point is what a list of columns' numbers is to be.
type point struct {
	fits, whole, ray bool
	value            string // "": none
}

// asked is what Fits, Whole, Ray, Value are to say of x.
func asked(l api.LP, texts []string) point {
	if !may(l) {
		return point{}
	}
	x, ok := numbers(texts, len(l.Cols))
	if !ok {
		return point{}
	}
	cost := products(costsOf(l), x)
	p := point{fits: true, whole: true, ray: cost.Sign() < 0, value: cost.RatString()}
	for k, c := range l.Cols {
		if c.Low != "" {
			p.fits = p.fits && x[k].Cmp(rat(c.Low)) >= 0
			p.ray = p.ray && x[k].Sign() >= 0
		}
		if c.Up != "" {
			p.fits = p.fits && x[k].Cmp(rat(c.Up)) <= 0
			p.ray = p.ray && x[k].Sign() <= 0
		}
		p.whole = p.whole && (!c.Int || x[k].IsInt())
	}
	for _, r := range l.Rows {
		sum := products(full(r, len(l.Cols)), x)
		left := new(big.Rat).Sub(sum, rat(r.Rhs))
		p.fits = p.fits && (left.Sign() == 0 || r.Kind == 1 && left.Sign() < 0 || r.Kind == 3 && left.Sign() > 0)
		p.ray = p.ray && (sum.Sign() == 0 || r.Kind == 1 && sum.Sign() < 0 || r.Kind == 3 && sum.Sign() > 0)
	}
	return p
}

// askedBound is what Bound is to say; "": nothing.
func askedBound(l api.LP, texts []string, costs bool) string {
	if !may(l) {
		return ""
	}
	y, ok := numbers(texts, len(l.Rows))
	if !ok {
		return ""
	}
	d := make([]*big.Rat, len(l.Cols))
	for k, c := range l.Cols {
		d[k] = new(big.Rat)
		if costs {
			d[k] = rat(c.Cost)
		}
	}
	sum := new(big.Rat)
	for k, r := range l.Rows {
		if r.Kind == 1 && y[k].Sign() > 0 || r.Kind == 3 && y[k].Sign() < 0 {
			return ""
		}
		sum.Add(sum, new(big.Rat).Mul(y[k], rat(r.Rhs)))
		for col, v := range full(r, len(l.Cols)) {
			d[col] = new(big.Rat).Sub(d[col], new(big.Rat).Mul(v, y[k]))
		}
	}
	for k, c := range l.Cols {
		end := c.Low
		if d[k].Sign() < 0 {
			end = c.Up
		}
		if d[k].Sign() == 0 {
			continue
		}
		if end == "" {
			return ""
		}
		sum.Add(sum, new(big.Rat).Mul(d[k], rat(end)))
	}
	return sum.RatString()
}

// brief tells of a program what fits in some lines.
func brief(l api.LP) string { return fmt.Sprintf("%.900s", fmt.Sprint(l)) }

// told is what the package says of x.
func told(t *testing.T, l api.LP, x []string) point {
	t.Helper()
	value, ok := prob.Value(l, x)
	if ok != (value != "") {
		t.Errorf("P14.1, P0.2: Value of %.80q is %.80q, %v", x, value, ok)
	}
	return point{prob.Fits(l, x), prob.Whole(l, x), prob.Ray(l, x), value}
}

func bound(t *testing.T, l api.LP, y []string, costs bool) string {
	t.Helper()
	text, ok := prob.Bound(l, y, costs)
	if ok != (text != "") {
		t.Errorf("P14.1, P0.2: Bound of %.80q is %.80q, %v", y, text, ok)
	}
	return text
}

// agrees holds all calls against what is asked of them.
func agrees(t *testing.T, l api.LP, x, y []string) {
	t.Helper()
	if got, want := prob.May(l), may(l); got != want {
		t.Fatalf("P14.1: May(%s) is %v", brief(l), got)
	}
	if got, want := told(t, l, x), asked(l, x); got != want {
		t.Fatalf("P14.1: of %s, %.300q: %.300s, not %.300s", brief(l), x, fmt.Sprint(got), fmt.Sprint(want))
	}
	for _, costs := range []bool{false, true} {
		if got, want := bound(t, l, y, costs), askedBound(l, y, costs); got != want {
			t.Fatalf("P14.1: Bound(%s, %.300q, %v) is %.300q, not %.300q", brief(l), y, costs, got, want)
		}
	}
}

// lp makes a program of columns "cost low up", of which a blank and "int" may
// stand behind, and rows "kind rhs coef coef ..": `-` is no bound, a Coef of 0
// is left out.
func lp(cols []string, rows ...string) api.LP {
	var l api.LP
	for k, c := range cols {
		w := strings.Fields(c)
		col := api.Col{Name: "x" + strconv.Itoa(k), Cost: w[0], Int: len(w) > 3}
		if w[1] != "-" {
			col.Low = w[1]
		}
		if w[2] != "-" {
			col.Up = w[2]
		}
		l.Cols = append(l.Cols, col)
	}
	for k, r := range rows {
		w := strings.Fields(r)
		row := api.Row{Name: "r" + strconv.Itoa(k), Kind: strings.Index("<=>", w[0]) + 1, Rhs: w[1]}
		for col, v := range w[2:] {
			if v != "0" {
				row.Coef = append(row.Coef, api.Coef{Col: col, V: v})
			}
		}
		l.Rows = append(l.Rows, row)
	}
	return l
}

// refused holds that l may not be, and that no call says anything of it.
func refused(t *testing.T, what string, l api.LP) {
	t.Helper()
	if prob.May(l) {
		t.Errorf("P14.1: May of %.80s", what)
	}
	for _, s := range []string{"0", "1", "-1"} {
		for _, n := range []int{0, 1, 2, 3, len(l.Cols), len(l.Rows)} {
			list := many(s, n)
			if got := told(t, l, list); got != (point{}) {
				t.Errorf("P14.1: of %.80s, which may not be, %d times %s: %v", what, n, s, got)
			}
			if a, b := bound(t, l, list, false), bound(t, l, list, true); a != "" || b != "" {
				t.Errorf("P14.1: of %.80s, which may not be, Bound of %d times %s: %.80q, %.80q", what, n, s, a, b)
			}
		}
	}
}

// taken holds that l may be, and that all calls say something of it.
func taken(t *testing.T, what string, l api.LP) {
	t.Helper()
	if !prob.May(l) {
		t.Errorf("P14.1: not May of %.80s", what)
	}
	if _, ok := prob.Value(l, many("0", len(l.Cols))); !ok {
		t.Errorf("P14.1: no Value of %.80s", what)
	}
	if !prob.Whole(l, many("0", len(l.Cols))) {
		t.Errorf("P14.1: not Whole of %.80s", what)
	}
	if text, _ := prob.Bound(l, many("0", len(l.Rows)), false); text != "0" {
		t.Errorf("P14.1: Bound of %.80s is %q", what, text)
	}
}

func many(s string, n int) []string {
	all := make([]string, n)
	for k := range all {
		all[k] = s
	}
	return all
}
