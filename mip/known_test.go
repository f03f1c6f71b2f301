package mip_test

import (
	"fmt"
	"math"
	"reflect"
	"slices"
	"strings"
	"testing"

	"victualler/api"
	"victualler/mip"
)

func TestKnown(t *testing.T) {
	for k, x := range []struct {
		l      api.LP
		status int
		value  string
	}{
		{lp("-5 0 9 int,-4 0 9 int", "6 4 < 24", "1 2 < 6"), best, "-20"},
		{lp("-5 0 9,-4 0 9", "6 4 < 24", "1 2 < 6"), best, "-21"},
		{lp("-5 0 9,-4 0 9 int", "6 4 < 24", "1 2 < 6"), best, "-62/3"},
		{lp("-5 0 9 int,-4 0 9", "6 4 < 24", "1 2 < 6"), best, "-21"},
		{lp("-2 0 1 int,-3 0 1 int,-4 0 1 int,-5 0 1 int", "3 4 5 6 < 10"), best, "-8"},
		{lp("-8 0 1 int,-11 0 1 int,-6 0 1 int,-4 0 1 int", "5 7 4 3 < 14"), best, "-21"},
		{lp("1 0 10 int,1 0 10 int", "3 5 > 7"), best, "2"},
		{lp("1 0 10 int,1 0 10 int", "3 5 = 7"), none, ""},
		{lp("1 0 10 int,1 0 10 int", "3 5 = 8"), best, "2"},
		{lp("1 -10 10 int,1 -10 10 int", "3 5 = 7"), best, "-1"},
		{lp("-1 -10 10 int,-1 -10 10 int", "3 5 = 7"), best, "-5"},
		{lp("1 -10 10 int,1 -10 10 int", "6 9 = 7"), none, ""},

		// No rows, no columns.
		{lp(""), best, "0"},
		{lp("", "< 0"), best, "0"},
		{lp("", "< -1"), none, ""},
		{lp("3 2 2 int"), best, "6"},
		{lp("-3 2 2 int"), best, "-6"},

		// Bounds that are no whole numbers.
		{lp("-1 0 5/2 int"), best, "-2"},
		{lp("1 -5/2 0 int"), best, "-2"},
		{lp("1 5/2 7/2 int"), best, "3"},
		{lp("1 -7/2 -5/2 int"), best, "-3"},
		{lp("1 1/3 2/3 int"), none, ""},
		{lp("1 1/2 1/2 int"), none, ""},
		{lp("0 -2/3 -1/3 int"), none, ""},
		{lp("0 -1/3 1/3 int"), best, "0"},
		{lp("1 1/3 2/3 int,1 1/3 2/3 int"), none, ""},
		{lp("1 0 1,1 1/3 2/3 int"), none, ""},
		{lp("1 0 1 int,1/7 1/3 2/3"), best, "1/21"},

		// Nothing whole fits, though something does.
		{lp("0 0 1 int,0 0 1 int", "2 2 = 1"), none, ""},
		{lp("0 0 9 int", "7 = 22/3"), none, ""},
		{lp("5 0 3 int,-1 0 3 int,2 0 1", "1 1 0 = 3/2"), none, ""},
		{lp("0 0 7 int,0 0 7 int", "4 -4 = 2"), none, ""},
		{lp("1 0 4 int,1 0 4 int", "4 4 > 17", "4 4 < 19"), none, ""},
		// Nothing at all does.
		{lp("1 0 1 int,1 0 1 int", "1 1 > 3"), none, ""},
		{lp("1 0 1 int,-1 - -", "1 0 > 3"), none, ""},

		// What goes below all, from what is whole.
		{lp("0 0 9 int,-1 0 -", "-1 0 < 0"), free, ""},
		{lp("0 0 1 int,0 0 1 int,-1 0 -", "2 2 0 = 2"), free, ""},
		{lp("0 1/2 9/2 int,-1 0 -", "2 0 > 3"), free, ""},
		{lp("7 -5 5 int,1 - -,-1 0 -", "2 -1 0 = 1/2"), free, ""},
		{lp("-1 - -"), free, ""},
		{lp("1 - 0,0 0 0 int"), free, ""},
		{lp("1 0 5 int,1 0 -,-2 0 -", "3 0 0 > 4", "0 1 -1 > 0", "5 0 0 < 12"), free, ""},
		// Where it would go below all nothing is whole.
		{lp("0 1/3 2/3 int,-1 0 -"), none, ""},
		{lp("0 0 1 int,-1 - -", "2 0 = 1"), none, ""},
		{lp("0 0 3 int,0 0 3 int,-1 0 -", "2 -2 0 = 1"), none, ""},
		{lp("0 0 9 int,-1 0 -,0 0 9 int", "7 0 0 = 21/2"), none, ""},

		// Columns of both sorts.
		{lp("1 -9 9 int,1 0 -", "1 -1 = -7/2"), best, "-5/2"},
		{lp("-1 0 3 int,-1 0 3", "1 1 < 7/2"), best, "-7/2"},
		{lp("-2 0 3 int,-1 0 3", "2 1 < 9/2"), best, "-9/2"},
		{lp("10 0 5 int,1 - -", "4 1 > 9", "1 1 > 3", "0 1 > 1/2"), best, "9"},
		{lp("3 0 5 int,1 - -", "4 1 > 9", "1 1 > 3", "0 1 > 1/2"), best, "7"},
		{lp("-1 0 1 int,-1 0 1 int,-1 0 1 int,1 0 -", "2 2 2 -2 < 3"), best, "-3/2"},
		{lp("1/3 0 9 int,1/7 0 9 int", "1/2 1/5 > 17/11"), best, "23/21"},
	} {
		is(t, fmt.Sprint("known ", k), x.l, x.status, x.value)
		if status, value := tried(x.l); status != x.status || value != x.value {
			t.Errorf("known %d: tried it is %d, %s", k, status, value)
		}
	}
}

// A program that needs no branches has a tree of one leaf; its Dual is simplex's.
func TestOneLeaf(t *testing.T) {
	for _, l := range []api.LP{lp(""), lp("3 2 2 int"), lp("2 0 2 int,3 0 7 int", "1 1 > 3"), lp("1 0 1 int", "1 > 2"), lp("1 0 -,1 0 -", "2 1 > 1")} {
		for _, deep := range []bool{false, true} {
			if _, tree := solved(t, "one leaf", l, deep, 1); len(tree) != 1 || tree[0].Col >= 0 || len(tree[0].Dual) != len(l.Rows) {
				t.Errorf("P19.1: of %v there is a tree %v", l, tree)
			}
		}
	}
}

// What may not be is ErrForm, and ahead of a bound that lacks.
func TestErrors(t *testing.T) {
	wide, tall := lp("1 0 1 int"), lp("1 0 1 int", "1 < 1")
	wide.Cols, tall.Rows = slices.Repeat(wide.Cols, 101), slices.Repeat(tall.Rows, 441)
	ranged, kind, twice, order := lp("1 0 1 int", "1 < 1"), lp("1 0 1 int", "1 < 1"), lp("1 0 1 int,1 0 1", "1 1 < 1"), lp("1 0 1 int,1 0 1", "1 1 < 1")
	ranged.Rows[0].Range = "1"
	kind.Rows[0].Kind = 4
	twice.Rows[0].Coef[1].Col = 0
	order.Rows[0].Coef[0], order.Rows[0].Coef[1] = order.Rows[0].Coef[1], order.Rows[0].Coef[0]
	wrongs := []api.LP{wide, tall, ranged, kind, twice, order}
	for _, s := range []string{"x", "2/4", "01", "-0", "1/0", "0.5", "+1", " 1", "\x00", strings.Repeat("9", 2001)} {
		l := lp("1 0 1 int,1 0 1", "1 1 < 1")
		m := lp("1 - - int,1 0 1", "1 1 < 1")
		for _, one := range []api.LP{l, m} {
			for _, spoil := range []func(l *api.LP){
				func(l *api.LP) { l.Cols[1].Cost = s },
				func(l *api.LP) { l.Cols[1].Low = s },
				func(l *api.LP) { l.Cols[1].Up = s },
				func(l *api.LP) { l.Rows[0].Rhs = s },
				func(l *api.LP) { l.Rows[0].Coef[0].V = s },
			} {
				bad := api.LP{Cols: slices.Clone(one.Cols), Rows: slices.Clone(one.Rows)}
				bad.Rows[0].Coef = slices.Clone(bad.Rows[0].Coef)
				spoil(&bad)
				wrongs = append(wrongs, bad)
			}
		}
	}
	wrongs = append(wrongs, lp("1 3 1 int"), lp("1 1/2 1/3 int"), lp("1 - - int,1 1 0"), lp("1 0 1 int", "0 1 > 1"), lp("1 - 1 int", "1 > y"))
	for k, l := range wrongs {
		fails(t, fmt.Sprint("wrong ", k), l, api.ErrForm)
	}
	for k, l := range []api.LP{
		lp("1 0 - int"), lp("1 - 0 int"), lp("1 - - int"), lp("0 - - int"),
		lp("1 0 1,1 - - int", "1 0 = 7"), lp("1 0 1 int,1 0 - int,1 0 1"), lp("1 0 1 int,-1 - 5 int", "1 1 > 2"),
		lp("1 0 1,1 0 1,1 0 - int", "1 1 1 < 1", "1 1 1 > 2"),
	} {
		fails(t, fmt.Sprint("lacking ", k), l, api.ErrBound)
	}
	// Others may lack them.
	is(t, "a column without bounds", lp("1 0 1 int,1 - -", "1 1 > 1/2"), best, "1/2")
}

func fails(t *testing.T, what string, l api.LP, want api.Errno) {
	t.Helper()
	for _, deep := range []bool{false, true} {
		for _, nodes := range []int{math.MinInt, 0, 1, 300, math.MaxInt} {
			if a, tree, e := mip.Solve(l, deep, nodes); e != want || tree != nil || !reflect.DeepEqual(a, api.Answer{}) {
				t.Errorf("P19.1: %s: Solve is %v, %v, %d, not %d", what, a, tree, e, want)
			}
		}
	}
}

// Names count for nothing.
func TestNames(t *testing.T) {
	l := lp("-5 0 9 int,-4 0 9 int", "6 4 < 24", "1 2 < 6")
	l.Cols[0].Name, l.Cols[1].Name, l.Rows[0].Name, l.Rows[1].Name = "\x00", "theta", "theta", strings.Repeat("x", 99)
	is(t, "names", l, best, "-20")
}
