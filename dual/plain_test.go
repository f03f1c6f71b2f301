package dual_test

import (
	"fmt"
	"math/big"
	"reflect"
	"slices"
	"strconv"
	"strings"
	"testing"

	"victualler/api"
	"victualler/dual"
	"victualler/prob"
	"victualler/proof"
	"victualler/simplex"
)

const (
	best = api.SOptimal
	none = api.SInfeasible
	free = api.SUnbounded
)

// asked is a State, and what its program is to be, laid by other means.
type asked struct {
	*testing.T
	what string
	s    *dual.State
	l    api.LP
	a    api.Answer // the last one
}

// begin holds New to its words.
func begin(t *testing.T, what string, l api.LP) *asked {
	t.Helper()
	s, a, ok := dual.New(l)
	if !ok {
		t.Fatalf("P17.1: %s: New says no to %s", what, brief(l))
	}
	x := &asked{t, what, s, l, a}
	x.right()
	return x
}

// row holds Row to its words, whatever r is.
func (x *asked) row(r api.Row) bool {
	x.Helper()
	l := x.l
	l.Rows = slices.Concat(l.Rows, []api.Row{r})
	a, ok := x.s.Row(r)
	x.told("Row", l, a, ok)
	return ok
}

// bounds holds Bounds to its words, whatever they are.
func (x *asked) bounds(col int, low, up string) bool {
	x.Helper()
	l := api.LP{Cols: slices.Clone(x.l.Cols), Rows: x.l.Rows}
	a, ok := x.s.Bounds(col, low, up)
	if col < 0 || col >= len(l.Cols) {
		// There is no program that would be.
		l.Cols = []api.Col{{Cost: "none"}}
	} else {
		l.Cols[col].Low, l.Cols[col].Up = low, up
	}
	x.told("Bounds", l, a, ok)
	return ok
}

func (x *asked) told(call string, l api.LP, a api.Answer, ok bool) {
	x.Helper()
	if ok != prob.May(l) {
		x.Fatalf("P17.1: %s: %s says %v to %s", x.what, call, ok, brief(l))
	}
	if ok {
		x.l, x.a = l, a
		x.right()
		return
	}
	if !reflect.DeepEqual(a, api.Answer{}) {
		x.Errorf("P17.1: %s: beside false %s is %v", x.what, call, a)
	}
	if !same(x.s.LP(), x.l) {
		x.Errorf("P17.1: %s: beside false %s changed the program", x.what, call)
	}
}

// right looks at the last answer.
func (x *asked) right() {
	x.Helper()
	if l := x.s.LP(); !same(l, x.l) {
		x.Fatalf("P17.1: %s: LP is %s, not %s", x.what, brief(l), brief(x.l))
	}
	want, _ := simplex.Solve(x.l)
	if x.a.Status != want.Status || x.a.Value != want.Value {
		x.Fatalf("P17.1: %s: of %s it is %s, not %s", x.what, brief(x.l), brief(x.a), brief(want))
	}
	if !proof.Check(x.l, x.a) {
		x.Fatalf("P17.1: %s: of %s it is %s", x.what, brief(x.l), brief(x.a))
	}
	if (x.a.X == nil) != (want.X == nil) || (x.a.Dual == nil) != (want.Dual == nil) || (x.a.Ray == nil) != (want.Ray == nil) {
		x.Errorf("P17.1: %s: it has more or less than its Status: %v", x.what, x.a)
	}
}

// is holds Status and Value.
func (x *asked) is(status int, value string) {
	x.Helper()
	if x.a.Status != status || x.a.Value != value {
		x.Errorf("P17.1: %s: of %s it is %s, not %d %.200s", x.what, brief(x.l), brief(x.a), status, value)
	}
}

func brief(x any) string { return fmt.Sprintf("%.900s", fmt.Sprint(x)) }

// same holds two programs against each other, field by field.
func same(l, m api.LP) bool {
	return slices.Equal(l.Cols, m.Cols) && slices.EqualFunc(l.Rows, m.Rows, func(r, s api.Row) bool {
		return r.Name == s.Name && r.Kind == s.Kind && slices.Equal(r.Coef, s.Coef) && r.Rhs == s.Rhs && r.Range == s.Range
	})
}

// cols lays columns: "cost low up", parted by commas, - for a bound that is none.
func cols(text string, rows ...string) api.LP {
	var l api.LP
	for c := range strings.SplitSeq(text, ",") {
		if w := strings.Fields(c); len(w) > 0 {
			l.Cols = append(l.Cols, api.Col{Cost: w[0], Low: strings.TrimSuffix(w[1], "-"), Up: strings.TrimSuffix(w[2], "-")})
		}
	}
	for _, r := range rows {
		l.Rows = append(l.Rows, row(r))
	}
	return l
}

// row lays a row: its numbers by columns, <, = or >, the right side.
func row(text string) api.Row {
	w := strings.Fields(text)
	at := len(w) - 2
	r := api.Row{Kind: strings.Index("<=>", w[at]) + 1, Rhs: w[at+1]}
	for k, s := range w[:at] {
		if s != "0" {
			r.Coef = append(r.Coef, api.Coef{Col: k, V: s})
		}
	}
	return r
}

// dice throws numbers that are the same in every run.
type dice uint64

func (d *dice) below(n int) int {
	*d = *d*6364136223846793005 + 1442695040888963407
	return int(*d>>33) % n
}

// number is a text of -size to size, now and then a fraction.
func (d *dice) number(size int) string {
	n, over := d.below(2*size+1)-size, 1
	if d.below(4) == 0 {
		over = 1 + d.below(6)
	}
	return big.NewRat(int64(n), int64(over)).RatString()
}

// ends throws two bounds.
func (d *dice) ends() (low, up string) {
	n := d.below(9) - 5
	if d.below(4) > 0 {
		low = strconv.Itoa(n)
	}
	if d.below(3) > 0 {
		up = strconv.Itoa(n + d.below(6))
	}
	return low, up
}

// row throws a row of so many columns.
func (d *dice) row(cols int) api.Row {
	r := api.Row{Kind: 1 + d.below(3), Rhs: d.number(12)}
	dense := d.below(4)
	for k := range cols {
		if v := d.number(4); v != "0" && d.below(4) >= dense {
			r.Coef = append(r.Coef, api.Coef{Col: k, V: v})
		}
	}
	return r
}

// program throws one.
func (d *dice) program(cols, rows int) api.LP {
	var l api.LP
	for range cols {
		c := api.Col{Cost: d.number(5)}
		c.Low, c.Up = d.ends()
		l.Cols = append(l.Cols, c)
	}
	for range rows {
		l.Rows = append(l.Rows, d.row(cols))
	}
	return l
}
