package simplex_test

import (
	"fmt"
	"reflect"
	"strconv"
	"testing"

	"victualler/api"
	"victualler/simplex"
)

// covering asks of each row that some columns come to as much; it fits if all
// are high enough.
func covering(d *dice, cols, rows, share int, up string) api.LP {
	var l api.LP
	for range cols {
		l.Cols = append(l.Cols, api.Col{Cost: strconv.Itoa(1 + d.below(20)), Low: "0", Up: up})
	}
	for k := range rows {
		list := make([]int, cols)
		list[k%cols] = 1
		for j := range list {
			if d.below(share) == 0 {
				list[j] = 1 + d.below(20)
			}
		}
		l.Rows = append(l.Rows, api.Row{Kind: api.RMore, Rhs: strconv.Itoa(1 + d.below(20)), Coef: coefs(integers(list))})
	}
	return l
}

// As many columns and rows as there may be, and one more.
func TestAtTheLimits(t *testing.T) {
	d := dice(10)
	for _, x := range []struct {
		cols, rows int
		ok         bool
	}{{100, 440, true}, {101, 440, false}, {100, 441, false}, {101, 441, false}, {100, 1, true}, {101, 1, false}, {1, 440, true}, {1, 441, false}} {
		for _, share := range []int{1, 40} {
			l := covering(&d, x.cols, x.rows, share, "")
			what := fmt.Sprint(x.cols, " columns, ", x.rows, " rows")
			if x.ok {
				ends(t, what, l, best)
			} else if a, ok := simplex.Solve(l); ok || !reflect.DeepEqual(a, api.Answer{}) {
				t.Errorf("P16.1: %s: Solve is %v, %v", what, a.Status, ok)
			}
		}
	}
	for _, n := range []int{0, 1, 440, 441, 100_000} {
		l := api.LP{}
		for range n {
			l.Rows = append(l.Rows, api.Row{Kind: api.RLess, Rhs: "0"})
		}
		if n <= 440 {
			is(t, "empty rows", l, best, "0")
		} else if a, ok := simplex.Solve(l); ok || !reflect.DeepEqual(a, api.Answer{}) {
			t.Errorf("P16.1: of %d empty rows Solve is %v, %v", n, a.Status, ok)
		}
	}
	for _, n := range []int{0, 1, 100, 101, 100_000} {
		l := api.LP{}
		for range n {
			l.Cols = append(l.Cols, api.Col{Cost: "-1", Up: "1"})
		}
		if n <= 100 {
			is(t, "columns alone", l, best, strconv.Itoa(-n))
		} else if a, ok := simplex.Solve(l); ok || !reflect.DeepEqual(a, api.Answer{}) {
			t.Errorf("P16.1: of %d columns Solve is %v, %v", n, a.Status, ok)
		}
	}
}

// At the limits, of each Status, sparse and full.
func TestAllAtTheLimits(t *testing.T) {
	d := dice(11)
	l := covering(&d, 100, 440, 30, "1/50")
	is(t, "too low", l, none, "")
	l = covering(&d, 100, 440, 30, "")
	l.Cols[77].Cost = "-1"
	is(t, "one for nothing", l, free, "")
	l = covering(&d, 100, 440, 1, "")
	for k := range l.Rows {
		l.Rows[k].Kind = api.RLess
	}
	for k := range l.Cols {
		l.Cols[k].Cost = "-" + l.Cols[k].Cost
	}
	ends(t, "packing", l, best)
	ends(t, "a cone", cone(&d, 100, 440, 1, api.RLess), best)
}

// Columns without bounds, at a point that 440 equalities have in common, of which
// all but a few say what the others say.
func TestEqualitiesAtTheLimit(t *testing.T) {
	d := dice(12)
	const rank = 12
	var l api.LP
	for range 100 {
		l.Cols = append(l.Cols, api.Col{Cost: "0", Low: "-50", Up: "50"})
	}
	lists := make([][]int, 440)
	for k := range lists {
		lists[k] = make([]int, 100)
		first, second := lists[d.below(rank)], lists[d.below(rank)]
		sum := 0
		for j := range lists[k] {
			if k < rank {
				lists[k][j] = d.below(7) - 3
			} else {
				lists[k][j] = first[j] - 2*second[j]
			}
			sum += lists[k][j] * (j%5 - 2)
			l.Cols[j].Cost = strconv.Itoa(d.below(9) - 4)
		}
		l.Rows = append(l.Rows, api.Row{Kind: api.REqual, Rhs: strconv.Itoa(sum), Coef: coefs(integers(lists[k]))})
	}
	ends(t, "equalities", l, best)
	l.Rows[439].Rhs = "1000001/7"
	is(t, "one of them off", l, none, "")
}

// Wide and flat, tall and narrow.
func TestShapes(t *testing.T) {
	d := dice(13)
	for _, x := range [][2]int{{100, 1}, {100, 5}, {50, 20}, {20, 100}, {5, 440}, {1, 440}, {2, 440}} {
		for range 6 {
			solved(t, fmt.Sprint(x), thrown(&d, x[0], x[1]))
		}
	}
}
