package leaf_test

import (
	"math"
	"math/big"
	"strings"
	"testing"

	"victualler/api"
	"victualler/leaf"
)

const (
	best = api.SOptimal
	less = api.SInfeasible
	free = api.SUnbounded
)

// answer has lists of words, parted by blanks.
func answer(status int, value, x, dual, ray string) api.Answer {
	return api.Answer{Status: status, Value: value, X: strings.Fields(x), Dual: strings.Fields(dual), Ray: strings.Fields(ray)}
}

func TestCheck(t *testing.T) {
	loose := lp("-1 0 - int,-1 0 -")
	halves := lay("0:0:1:2", "1:0:3:4", "-1", "1", "-1")
	for k, x := range []struct {
		l    api.LP
		a    api.Answer
		tree []api.Node
		want bool
	}{
		{two(), answer(best, "-20", "4 0", "", ""), proof(), true},
		{two(), answer(best, "-19", "3 1", "", ""), proof(), false},    // the tree shows more, but there is less
		{two(), answer(best, "-15", "3 0", "", ""), proof(), false},    // the Value of an X that fits
		{two(), answer(best, "-21", "3 3/2", "", ""), proof(), false},  // not whole
		{two(), answer(best, "-20", "4 1/2", "", ""), proof(), false},  // not whole, does not fit
		{two(), answer(best, "-20", "0 5", "", ""), proof(), false},    // does not fit
		{two(), answer(best, "-24", "4 1", "", ""), proof(), false},    // does not fit
		{two(), answer(best, "-20", "4", "", ""), proof(), false},      // not so many
		{two(), answer(best, "-20", "4 0 0", "", ""), proof(), false},  // too many
		{two(), answer(best, "-20", "4 x", "", ""), proof(), false},    // no number
		{two(), answer(best, "-20", "4 0/1", "", ""), proof(), false},  // no number
		{two(), answer(best, "-20", "", "", ""), proof(), false},       // none
		{two(), answer(best, "-21", "4 0", "", ""), proof(), false},    // another Value
		{two(), answer(best, "-40/2", "4 0", "", ""), proof(), false},  // not frac.Text
		{two(), answer(best, "", "4 0", "", ""), proof(), false},       // none
		{two(), answer(best, "-20", "4 0", "0 0", ""), proof(), false}, // a Dual
		{two(), answer(best, "-20", "4 0", "-1 0", ""), proof(), false},
		{two(), answer(best, "-20", "4 0", "", "0 0"), proof(), false},          // a Ray
		{two(), answer(best, "-20", "4 0", "", ""), nil, false},                 // no tree
		{two(), answer(best, "-20", "4 0", "", ""), proof()[:1], false},         // half a tree
		{two(), answer(best, "-20", "4 0", "", ""), lay("-3/4 -1/2"), false},    // that shows less
		{two(), answer(less, "", "", "", ""), proof(), false},                   // another Status
		{two(), answer(free, "", "4 0", "", "0 0"), nil, false},                 // another Status
		{two(), answer(api.SSpent, "", "", "", ""), nil, false},                 // another Status
		{two(), answer(api.SSpent, "-20", "4 0", "", ""), proof(), false},       // another Status
		{two(), answer(0, "-20", "4 0", "", ""), proof(), false},                // another Status
		{two(), answer(math.MinInt, "-20", "4 0", "", ""), proof(), false},      // another Status
		{lp("3 2 2 int"), answer(best, "6", "2", "", ""), lay(""), true},        // no branches
		{lp("3 2 3 int"), answer(best, "9", "3", "", ""), lay(""), false},       // fits, but there is less
		{lp("1 1/2 2"), answer(best, "1/2", "1/2", "", ""), lay(""), true},      // need not be whole
		{lp("1 1/2 2 int"), answer(best, "1/2", "1/2", "", ""), lay(""), false}, // is to be whole
		{lp("1 1/2 2 int"), answer(best, "1", "1", "", ""), lay("0:0:1:2", "", ""), true},
		{lp(""), answer(best, "0", "", "", ""), lay(""), true},

		{none(), answer(less, "", "", "", ""), halves, true},
		{none(), answer(less, "0", "", "", ""), halves, false},   // a Value
		{none(), answer(less, "", "0 0", "", ""), halves, false}, // an X
		{none(), answer(less, "", "", "1", ""), halves, false},   // a Dual
		{none(), answer(less, "", "", "", "0 0"), halves, false}, // a Ray
		{none(), answer(less, "", "", "", ""), nil, false},       // no tree
		{none(), answer(less, "", "", "", ""), lay("1"), false},  // shows nothing
		{none(), answer(best, "0", "0 1/2", "", ""), halves, false},
		{none(), answer(best, "0", "0 1", "", ""), halves, false},
		{none(), answer(free, "", "0 1/2", "", "0 0"), nil, false},
		{lp("1 0 1 int", "1 > 2"), answer(less, "", "", "", ""), lay("1"), true},
		{lp("1 0 1 int", "1 > 2"), answer(less, "", "", "", ""), lay("0"), false},
		{lp("1 0 1 int", "1 > 2"), answer(less, "", "", "1", ""), lay("1"), false}, // the Dual is the tree's
		{lp("1 0 1 int", "1 > 1"), answer(less, "", "", "", ""), lay("1"), false},
		{lp("-1 0 1 int"), answer(less, "", "", "", ""), lay(""), false}, // shows that none is less than 1 less than 0

		{lp("0 0 9 int,-1 0 -", "0 1 < 7"), answer(free, "", "3 1/2", "", "0 1"), nil, false}, // a row goes up
		{lp("0 0 9 int,-1 0 -", "-1 0 < 0"), answer(free, "", "3 1/2", "", "0 1"), nil, true},
		{lp("0 0 9 int,-1 0 -", "-1 0 < 0"), answer(free, "", "3 1/2", "", "0 1/7"), lay()[:0], true},
		{lp("0 0 9 int,-1 0 -", "-1 0 < 0"), answer(free, "", "3 1/2", "", "0 1"), lay(""), false},  // a tree
		{lp("0 0 9 int,-1 0 -", "-1 0 < 0"), answer(free, "-1", "3 1/2", "", "0 1"), nil, false},    // a Value
		{lp("0 0 9 int,-1 0 -", "-1 0 < 0"), answer(free, "", "3 1/2", "0", "0 1"), nil, false},     // a Dual
		{lp("0 0 9 int,-1 0 -", "-1 0 < 0"), answer(free, "", "1/2 1/2", "", "0 1"), nil, false},    // not whole
		{lp("0 0 9 int,-1 0 -", "-1 0 < 0"), answer(free, "", "10 1/2", "", "0 1"), nil, false},     // does not fit
		{lp("0 0 9 int,-1 0 -", "-1 0 < 0"), answer(free, "", "3 -1", "", "0 1"), nil, false},       // does not fit
		{lp("0 0 9 int,-1 0 -", "-1 0 < 0"), answer(free, "", "3", "", "0 1"), nil, false},          // not so many
		{lp("0 0 9 int,-1 0 -", "-1 0 < 0"), answer(free, "", "", "", "0 1"), nil, false},           // none
		{lp("0 0 9 int,-1 0 -", "-1 0 < 0"), answer(free, "", "3 1/2", "", "0 -1"), nil, false},     // the costs go up
		{lp("0 0 9 int,-1 0 -", "-1 0 < 0"), answer(free, "", "3 1/2", "", "1 1"), nil, false},      // a bound
		{lp("0 0 9 int,-1 0 -", "-1 0 < 0"), answer(free, "", "3 1/2", "", "0 0"), nil, false},      // the costs stay
		{lp("0 0 9 int,-1 0 -", "-1 0 < 0"), answer(free, "", "3 1/2", "", "0"), nil, false},        // not so many
		{lp("0 0 9 int,-1 0 -", "-1 0 < 0"), answer(free, "", "3 1/2", "", "0 1 0"), nil, false},    // too many
		{lp("0 0 9 int,-1 0 -", "-1 0 < 0"), answer(free, "", "3 1/2", "", ""), nil, false},         // none
		{lp("0 0 9 int,-1 0 -", "-1 0 < 0"), answer(free, "", "3 1/2", "", "0 x"), nil, false},      // no number
		{lp("0 0 9 int,-1 0 -", "-1 0 < 0"), answer(less, "", "", "", ""), lay("0"), false},         // another Status
		{lp("0 0 9 int,-1 0 -", "-1 0 < 0"), answer(best, "0", "3 0", "", ""), lay("0"), false},     // another Status
		{lp("0 0 9 int,-1 0 -", "-1 0 < 0"), answer(best, "-7", "3 7", "", "0 1"), lay("0"), false}, // another Status
		{loose, answer(free, "", "3 1/2", "", "0 1"), nil, true},
		{loose, answer(free, "", "3 1/2", "", "1/2 1"), nil, false}, // would not stay whole
		{loose, answer(free, "", "3 1/2", "", "1 0"), nil, false},   // would, but it is to be 0
		{lp("-1 0 -"), answer(free, "", "1/2", "", "3/2"), nil, true},
		{lp("-1 0 - int"), answer(free, "", "1", "", "1"), nil, false},
	} {
		if got := leaf.Check(x.l, x.a, x.tree); got != x.want {
			t.Errorf("P20.1, %d: Check of %v is %v", k, x.a, got)
		}
	}
}

// An empty list is as a nil one.
func TestEmptyLists(t *testing.T) {
	lists := [][]string{nil, {}}
	for k := range 8 {
		first, second, third := lists[k%2], lists[k/2%2], lists[k/4]
		if !leaf.Check(two(), api.Answer{Status: best, Value: "-20", X: []string{"4", "0"}, Dual: first, Ray: second}, proof()) {
			t.Error("P0.4: Check with empty lists of what is best")
		}
		if !leaf.Check(lp("1 0 1 int", "1 > 2"), api.Answer{Status: less, X: first, Dual: second, Ray: third}, lay("1")) {
			t.Error("P0.4: Check with empty lists where nothing fits")
		}
		for _, tree := range [][]api.Node{nil, {}} {
			if !leaf.Check(lp("-1 0 -"), api.Answer{Status: free, X: []string{"0"}, Dual: first, Ray: []string{"1"}}, tree) {
				t.Error("P0.4: Check with empty lists of what has no end")
			}
		}
		l := api.LP{Cols: []api.Col{}, Rows: []api.Row{}}
		if !leaf.Check(l, api.Answer{Status: best, Value: "0", X: first}, []api.Node{{Col: -1, Dual: second}}) || !leaf.Covers(l, []api.Node{{Col: -1, Dual: third}}, "0", false) {
			t.Error("P0.4: of a program of nothing")
		}
	}
}

// Where the Value is longer than what is read as a floor no tree shows it.
func TestLongValue(t *testing.T) {
	nines := strings.Repeat("9", 2000)
	l := lp(nines + " 1 1 int,1 0 0 int")
	if !leaf.Check(l, answer(best, nines, "1 0", "", ""), lay("")) {
		t.Error("P20.1: Check of a Value of 2000 digits")
	}
	l = lp("1/" + nines + " 1 1,1/" + nines[:1999] + " 1 1")
	value := new(big.Rat).Add(number("1/"+nines), number("1/"+nines[:1999])).RatString()
	if len(value) < 4000 || leaf.Check(l, answer(best, value, "1 1", "", ""), lay("")) {
		t.Error("P20.1: Check of a Value of more digits")
	}
}
