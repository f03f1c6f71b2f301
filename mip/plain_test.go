package mip_test

import (
	"math/big"
	"reflect"
	"slices"
	"strconv"
	"strings"
	"testing"

	"victualler/api"
	"victualler/leaf"
	"victualler/mip"
	"victualler/prob"
	"victualler/simplex"
)

const (
	best  = api.SOptimal
	none  = api.SInfeasible
	free  = api.SUnbounded
	spent = api.SSpent
)

// dice throws numbers that are the same in every run.
type dice uint64

func (d *dice) below(n int) int {
	*d = *d*6364136223846793005 + 1442695040888963407
	return int(*d>>33) % n
}

// lp lays a program: "cost low up" of each column, parted by commas, - for a bound
// that is none, "int" behind if it is to be whole; then rows: their numbers by
// columns, <, = or >, the right side.
func lp(cols string, rows ...string) api.LP {
	var l api.LP
	for c := range strings.SplitSeq(cols, ",") {
		if w := strings.Fields(c); len(w) > 0 {
			l.Cols = append(l.Cols, api.Col{Cost: w[0], Low: strings.TrimSuffix(w[1], "-"), Up: strings.TrimSuffix(w[2], "-"), Int: len(w) > 3})
		}
	}
	for _, text := range rows {
		w := strings.Fields(text)
		at := len(w) - 2
		r := api.Row{Kind: strings.Index("<=>", w[at]) + 1, Rhs: w[at+1]}
		for k, s := range w[:at] {
			if s != "0" {
				r.Coef = append(r.Coef, api.Coef{Col: k, V: s})
			}
		}
		l.Rows = append(l.Rows, r)
	}
	return l
}

// number is a text's, however long.
func number(s string) *big.Rat {
	x, _ := new(big.Rat).SetString(s)
	return x
}

// brief is the beginning of what may be long.
func brief(s string) string { return s[:min(400, len(s))] }

// solved has the answer to a program that may be, which is to be what the chapter
// says of its Status.
func solved(t *testing.T, what string, l api.LP, deep bool, nodes int) (api.Answer, []api.Node) {
	t.Helper()
	a, tree, e := mip.Solve(l, deep, nodes)
	if e != api.OK || a.Dual != nil {
		t.Fatalf("P19.1: %s: Solve is %d, its Dual %v", what, e, a.Dual)
	}
	want := api.Answer{Status: a.Status}
	switch a.Status {
	case best:
		want.Value, want.X = a.Value, a.X
		if v, ok := prob.Value(l, a.X); !prob.Fits(l, a.X) || !prob.Whole(l, a.X) || !ok || v != a.Value || !leaf.Check(l, a, tree) {
			t.Fatalf("P19.1: %s: Solve is %s", what, brief(a.Value))
		}
	case none:
		if !leaf.Check(l, a, tree) {
			t.Fatalf("P19.1: %s: Solve is that nothing fits", what)
		}
	case free:
		want.X, want.Ray = a.X, a.Ray
		if tree != nil || !prob.Fits(l, a.X) || !prob.Whole(l, a.X) || !prob.Ray(l, a.Ray) || !still(l, a.Ray) || !leaf.Check(l, a, tree) {
			t.Fatalf("P19.1: %s: Solve goes on from %v by %v", what, a.X, a.Ray)
		}
	case spent:
		if tree != nil {
			t.Fatalf("P19.1: %s: a budget is spent on %v", what, tree)
		}
	}
	if !reflect.DeepEqual(a, want) || a.Status < best || a.Status > spent || len(tree) > 300 || nodes > 0 && len(tree) > nodes {
		t.Fatalf("P19.1: %s: Solve is %v, a tree of %d", what, a, len(tree))
	}
	bare(t, what, tree)
	return a, tree
}

// still tells whether the columns that are to be whole stay where they are.
func still(l api.LP, ray []string) bool {
	for k, c := range l.Cols {
		if c.Int && ray[k] != "0" {
			return false
		}
	}
	return true
}

// bare looks whether nodes have what they are to have, and no more.
func bare(t *testing.T, what string, tree []api.Node) {
	t.Helper()
	for place, n := range tree {
		want := api.Node{Col: n.Col, At: n.At, Left: n.Left, Right: n.Right}
		if n.Col < 0 {
			want = api.Node{Col: n.Col, Dual: n.Dual}
		}
		if !reflect.DeepEqual(n, want) {
			t.Fatalf("P19.1: %s: node %d is %v", what, place, n)
		}
	}
}

// both solves with the newest node first and with the oldest, which are to be of one
// Status and one Value.
func both(t *testing.T, what string, l api.LP) api.Answer {
	t.Helper()
	a, _ := solved(t, what, l, false, 0)
	b, _ := solved(t, what, l, true, 0)
	if a.Status != spent && b.Status != spent && (a.Status != b.Status || a.Value != b.Value) {
		t.Fatalf("P19.1: %s: deep it is %v, else %v", what, b, a)
	}
	return a
}

// is solves what is known.
func is(t *testing.T, what string, l api.LP, status int, value string) {
	t.Helper()
	if a := both(t, what, l); a.Status != status || a.Value != value {
		t.Errorf("P19.1: %s: Solve is %d, %s, not %d, %s", what, a.Status, brief(a.Value), status, value)
	}
}

// tried tries all whole numbers, one set behind the other, each of them by what
// simplex says of the other columns.
func tried(l api.LP) (status int, value string) {
	status = none
	var least *big.Rat
	for _, x := range wholes(l) {
		fixed := api.LP{Cols: slices.Clone(l.Cols), Rows: l.Rows}
		for k, v := range x {
			if v != "" {
				fixed.Cols[k].Low, fixed.Cols[k].Up = v, v
			}
		}
		switch a, _ := simplex.Solve(fixed); a.Status {
		case api.SUnbounded:
			return free, ""
		case api.SOptimal:
			if v := number(a.Value); least == nil || v.Cmp(least) < 0 {
				status, value, least = best, a.Value, v
			}
		}
	}
	return status, value
}

// wholes are all whole numbers of the columns that are to be so, "" of the others.
func wholes(l api.LP) [][]string {
	list := [][]string{nil}
	for _, c := range l.Cols {
		values := []string{""}
		if c.Int {
			values = nil
			for n := -20; n <= 20; n++ {
				if v := big.NewRat(int64(n), 1); number(c.Low).Cmp(v) <= 0 && v.Cmp(number(c.Up)) <= 0 {
					values = append(values, strconv.Itoa(n))
				}
			}
		}
		var longer [][]string
		for _, x := range list {
			for _, v := range values {
				longer = append(longer, append(slices.Clone(x), v))
			}
		}
		list = longer
	}
	return list
}
