package leaf_test

import (
	"math"
	"slices"
	"strconv"
	"strings"
	"testing"

	"victualler/api"
	"victualler/leaf"
)

// Of wholes 0 to 9 the first costs -5, the other one -4; the best is 4, 0 at -20,
// while the best of all is 3, 3/2 at -21.
func two() api.LP { return lp("-5 0 9 int,-4 0 9 int", "6 4 < 24", "1 2 < 6") }

// proof shows that none is worth less than -20.
func proof() []api.Node {
	return lay("1:1:2:1", "0 -5", "0:3:3:4", "0 0", "-1 0")
}

// none has only a half that fits.
func none() api.LP { return lp("0 0 1 int,0 0 1 int", "2 2 = 1") }

func TestCovers(t *testing.T) {
	half := lp("1 1/3 2/3 int")
	open := lp("-1 - - int,1 - - int", "1 -1 = 1/2", "1 0 < 7/2", "1 0 > 5/2")
	for k, x := range []struct {
		l     api.LP
		tree  []api.Node
		floor string
		all   bool
		want  bool
	}{
		{two(), proof(), "-20", false, true},
		{two(), proof(), "-62/3", false, true},  // less than is shown
		{two(), proof(), "-59/3", false, false}, // more
		{two(), proof(), "-20", true, false},    // something fits
		{two(), lay("-3/4 -1/2"), "-21", false, true},
		{two(), lay("-3/4 -1/2"), "-20", false, false},
		{two(), lay("-3/4 -1/2"), "-209/10", false, false},
		{two(), lay("-3/4 1/2"), "-100", false, false}, // a wrong sign
		{two(), lay("-3/4"), "-100", false, false},     // not so many
		{two(), lay("-3/4 -1/2 0"), "-100", false, false},
		{two(), lay("-3/4 x"), "-100", false, false},
		{two(), lay(""), "-100", false, false},
		{two(), lay("0 0"), "-81", false, true}, // the bounds alone
		{two(), lay("0 0"), "-80", false, false},

		{none(), lay("1"), "-1", true, false},
		{none(), lay("0:0:1:2", "1:0:3:4", "-1", "1", "-1"), "", true, true},
		{none(), lay("0:0:1:2", "1:0:3:4", "-1", "1/9", "-77"), "no number", true, true},
		{none(), lay("0:0:1:2", "1:0:3:4", "-1", "1", "-1"), "1000", false, true}, // none fits: none is less than any
		{none(), lay("0:0:1:2", "1:0:3:4", "-1", "1", "-1"), "", false, false},
		{none(), lay("0:0:1:2", "1:0:3:4", "-1", "0", "-1"), "0", true, false},  // 0 is not above 0
		{none(), lay("0:0:1:2", "1:0:3:4", "-1", "0", "-1"), "0", false, true},  // but none is less than 0
		{none(), lay("0:0:1:2", "1:0:3:4", "-1", "-1", "-1"), "0", true, false}, // the other way
		{none(), lay("0:0:1:2", "1:0:3:4", "1", "1", "-1"), "0", true, false},
		{none(), lay("0:0:1:2", "1", "-1"), "0", true, false}, // a half fits
		{none(), lay("0:0:1:2", "0", "0"), "0", false, true},

		// A bound that crosses needs no Dual, and takes any.
		{half, lay("0:0:1:2", "", ""), "0", true, true},
		{half, lay("0:0:1:2", "", ""), "5", false, true},
		{half, lay("0:0:1:2", "x y z", "1 2 3"), "5", false, true},
		{half, lay("0:-1:1:2", "", "x"), "5", false, false}, // up to -1, and from 0 on
		{half, lay("0:-1:1:2", "x", ""), "1/3", false, true},
		{half, lay("0:-1:1:2", "", ""), "0", true, false},
		{half, lay("0:1:1:2", "", "x"), "1/3", false, true}, // up to 2/3, as before, and from 2 on
		{half, lay("0:1:1:2", "", "x"), "0", true, false},
		{half, lay("0:1:1:2", "x", ""), "1/3", false, false},
		{half, lay("0:0:1:2", "0:5:3:4", "0:-5:5:6", "x", "", "", "y"), "5", true, true}, // it stays crossed
		{lp("1 0 5 int,1 0 5"), lay("0:5:1:2", "", "no"), "0", false, true},
		{lp("1 0 5 int,1 0 5"), lay("0:4:1:2", "", ""), "0", false, true},
		{lp("1 0 5 int,1 0 5"), lay("0:4:1:2", "", "no"), "0", false, false},

		// Left has the lesser, Right the greater, of what is there already.
		{lp("-1 0 5 int"), lay("0:7:1:2", "", "x"), "-5", false, true},
		{lp("-1 0 5 int"), lay("0:7:1:2", "", "x"), "-4", false, false},
		{lp("1 0 5 int"), lay("0:-7:1:2", "x", ""), "0", false, true},
		{lp("1 0 5 int"), lay("0:-7:1:2", "x", ""), "1", false, false},
		{lp("-1 0 9 int"), lay("0:5:1:2", "0:3:3:4", "", "0:7:5:6", "", "", ""), "-9", false, true},
		{lp("-1 0 9 int"), lay("0:5:1:2", "0:3:3:4", "0:7:5:6", "", "", "", ""), "-9", false, true},
		{lp("-1 0 9 int"), lay("0:5:1:2", "0:3:3:4", "0:7:5:6", "", "", "", ""), "-8", false, false},
		{lp("1 0 9 int"), lay("0:5:1:2", "0:7:3:4", "0:3:5:6", "", "x", "y", ""), "0", false, true},
		{lp("1 0 9 int", "1 > 6"), lay("0:5:1:2", "1", "0:7:4:3", "0", "0"), "6", false, true},
		{lp("1 0 9 int", "1 > 6"), lay("0:5:1:2", "1", "0:7:4:3", "0", "0"), "7", false, false},

		// Columns without bounds.
		{open, lay("0:2:1:2", "0 0 1", "0:3:3:4", "1 0 0", "0 -1 0"), "0", true, false},
		{open, lay("0:2:1:2", "0 0 1", "0:3:3:4", "1:2:5:6", "0 -1 0", "-1 0 0", "1 0 0"), "0", true, true},
		{open, lay("0:2:1:2", "0 0 1", "0:3:3:4", "1:2:6:5", "0 -1 0", "1 0 0", "-1 0 0"), "0", true, true},
		{open, lay("0:2:1:2", "0 0 1", "0:3:3:4", "1:2:5:6", "0 -1 0", "0 0 0", "1 0 0"), "0", true, false},
		{open, lay("0:2:1:2", "0 0 1", "0:3:3:4", "1:2:5:6", "0 -1 0", "1 0 0", "-1 0 0"), "0", true, false},
		{lp("1 - - int"), lay("0:0:1:2", "", ""), "0", false, false},
		{lp("1 - 5 int"), lay("0:0:1:2", "", ""), "0", false, false},
		{lp("1 0 - int"), lay("0:3:1:2", "", ""), "0", false, true},
		{lp("-1 - 3 int"), lay("0:1:1:2", "", ""), "-3", false, true},
		{lp("-1 - 3 int"), lay("0:1:1:2", "", ""), "-2", false, false},

		// Nothing at all, rows alone.
		{lp(""), lay(""), "0", false, true},
		{lp(""), lay(""), "1/2", false, false},
		{lp(""), lay(""), "0", true, false},
		{lp("", "< -1"), lay("-1"), "0", true, true},
		{lp("", "< -1"), lay("0"), "0", true, false},
		{lp("", "< 1"), lay("0"), "0", false, true},
	} {
		if got := leaf.Covers(x.l, x.tree, x.floor, x.all); got != x.want {
			t.Errorf("P20.1, %d: Covers is %v", k, got)
		}
		if got := covers(x.l, x.tree, x.floor, x.all); got != x.want {
			t.Errorf("%d: once more it is %v", k, got)
		}
	}
}

// The tree is to be one: each place but 0 is reached just once, from a place ahead.
func TestTreeIsOne(t *testing.T) {
	good := func() []api.Node { return lay("0:1:1:2", "0:0:3:4", "0:2:5:6", "", "", "", "") }
	l := lp("1 0 5 int")
	if !leaf.Covers(l, good(), "0", false) {
		t.Fatal("P20.1: Covers does not take a tree")
	}
	for place := range 3 {
		for _, to := range []int{math.MinInt, -7, -1, 0, 1, 2, 3, 4, 5, 6, 7, 8, 601, math.MaxInt} {
			for _, left := range []bool{false, true} {
				tree := good()
				at := &tree[place].Right
				if left {
					at = &tree[place].Left
				}
				was := *at
				*at = to
				if leaf.Covers(l, tree, "0", false) != (to == was) {
					t.Errorf("P20.1: Covers of a tree where %d leads to %d (left: %v), not %d", place, to, left, was)
				}
			}
		}
	}
	for k, tree := range [][]api.Node{
		nil,
		{},
		lay("0:1:1:2", "", "", ""),        // one that is not reached
		lay("", ""),                       // another
		lay("", "0:1:2:3", "", ""),        // a tree beside it
		lay("0:1:1:2", ""),                // one that is missing
		lay("0:1:1:2"),                    // two
		lay("0:1:1:1", ""),                // one for both
		lay("0:1:1:3", "0:0:2:3", "", ""), // one for two
		lay("0:1:2:1", "0:0:3:4", "0:2:3:4", "", ""),      // two for two
		lay("0:1:0:1", ""),                                // back
		lay("0:1:1:2", "0:0:0:3", "", ""),                 // back
		lay("0:1:2:1", "", "0:0:1:3", ""),                 // back
		lay("0:1:1:3", "0:0:1:2", "", ""),                 // to itself
		append(good(), good()...),                         // another one behind it
		slices.Insert(good(), 0, api.Node{Col: -1}),       // one ahead of it
		slices.Delete(good(), 0, 1),                       // none there
		slices.Concat(good()[:5], good()[:1], good()[6:]), // back to the first ones
	} {
		for _, all := range []bool{false, true} {
			if leaf.Covers(l, tree, "-100", all) || leaf.Covers(lp("1 1/3 2/3 int"), tree, "-100", all) {
				t.Errorf("P20.1, %d: Covers takes what is no tree", k)
			}
		}
	}
	// Any order will do, as long as it leads on.
	for k, tree := range [][]api.Node{
		lay("0:1:2:1", "0:2:5:6", "0:0:3:4", "", "", "", ""),
		lay("0:1:2:1", "0:2:6:3", "0:0:5:4", "", "", "", ""),
		lay("0:1:5:1", "0:2:2:3", "", "", "", "0:0:6:4", ""),
	} {
		if got := leaf.Covers(l, tree, "0", false); got != covers(l, tree, "0", false) {
			t.Errorf("P20.1, %d: Covers is %v", k, got)
		}
	}
}

// A node that is no leaf has an Int column, and At is a whole number's text.
func TestNodes(t *testing.T) {
	l := lp("1 0 5 int,1 0 5,1 0 5 int")
	for _, x := range []struct {
		col int
		at  string
		ok  bool
	}{
		{0, "1", true}, {2, "1", true}, {2, "0", true}, {0, "-3", true}, {0, "77", true}, {0, strings.Repeat("9", 2000), true}, {2, "-" + strings.Repeat("9", 2000), true},
		{1, "1", false}, {3, "1", false}, {100, "1", false}, {math.MaxInt, "1", false},
		{0, "", false}, {0, "1/2", false}, {0, "-7/3", false}, {0, "x", false}, {0, "2/1", false}, {0, "01", false}, {0, "-0", false}, {0, "+1", false}, {0, " 1", false}, {0, "1.0", false}, {0, "1e1", false}, {0, strings.Repeat("9", 2001), false}, {0, "\x00", false},
	} {
		tree := []api.Node{{Col: x.col, At: x.at, Left: 1, Right: 2}, {Col: -1}, {Col: -1}}
		if leaf.Covers(l, tree, "-1", false) != x.ok {
			t.Errorf("P20.1: Covers of a node at column %d, %.9q", x.col, x.at)
		}
	}
	// What is below 0 is a leaf, and the rest of it counts for nothing; so does the
	// Dual of a node that is none.
	for _, col := range []int{-1, -2, math.MinInt} {
		tree := []api.Node{{Col: 0, At: "1", Left: 1, Right: 2, Dual: []string{"x", "y"}}, {Col: col, At: "x", Left: 1, Right: -9}, {Col: col, Left: 1, Right: 2}}
		if !leaf.Covers(l, tree, "0", false) || leaf.Covers(l, tree, "1", false) {
			t.Errorf("P20.1: Covers of leaves of Col %d", col)
		}
	}
}

// The floor is to be a number, unless all is asked.
func TestFloor(t *testing.T) {
	l := lp("-1 0 5 int", "1 < 9")
	empty := lp("-1 0 5 int", "1 < -9")
	for _, floor := range []string{"", "x", "-5/1", "-05", "-10/2", " -5", "-5 ", "+5", "-5.0", "-0", "1/0", "-" + strings.Repeat("9", 2001), "\xff"} {
		if leaf.Covers(l, lay("0"), floor, false) || leaf.Covers(empty, lay("-1"), floor, false) {
			t.Errorf("P20.1: Covers takes the floor %.9q", floor)
		}
		if leaf.Covers(l, lay("0"), floor, true) || !leaf.Covers(empty, lay("-1"), floor, true) {
			t.Errorf("P20.1: Covers with all at the floor %.9q", floor)
		}
	}
	for floor, want := range map[string]bool{"-5": true, "-51/10": true, "-" + strings.Repeat("9", 2000): true, "-49/10": false, "0": false, strings.Repeat("9", 2000): false, "1/" + strings.Repeat("9", 2000): false} {
		if leaf.Covers(l, lay("0"), floor, false) != want {
			t.Errorf("P20.1: Covers at the floor %.9q", floor)
		}
	}
}

// A tree of 601 nodes is taken, one of more is not.
func TestGreatTrees(t *testing.T) {
	l := lp("1 0 1000 int")
	chain := func(nodes int) (tree []api.Node) {
		for k := 0; len(tree) < nodes-1; k++ {
			tree = append(tree, api.Node{Col: 0, At: strconv.Itoa(k), Left: len(tree) + 1, Right: len(tree) + 2}, api.Node{Col: -1})
		}
		return append(tree, api.Node{Col: -1})
	}
	for _, nodes := range []int{1, 3, 299, 301, 599, 601} {
		if tree := chain(nodes); len(tree) != nodes || !leaf.Covers(l, tree, "0", false) || leaf.Covers(l, tree, "1", false) {
			t.Errorf("P20.1: Covers does not take %d nodes", nodes)
		}
	}
	for _, nodes := range []int{603, 605, 1201, 100_001} {
		if leaf.Covers(l, chain(nodes), "0", false) || leaf.Covers(lp("0 1/3 2/3 int"), chain(nodes), "0", true) {
			t.Errorf("P20.1: Covers takes %d nodes", nodes)
		}
	}
	if tree := chain(601); leaf.Covers(l, append(tree, api.Node{Col: -1}), "0", false) {
		t.Error("P20.1: Covers takes 602 nodes")
	}
	// As wide as it may be: all halves of 0 to 511, and some more.
	tree := []api.Node{{Col: -1}}
	for at, low, up := 0, []int{0}, []int{511}; len(tree) < 601; at++ {
		middle := (low[at]+up[at]+1)/2 - 1
		tree[at] = api.Node{Col: 0, At: strconv.Itoa(middle), Left: len(tree), Right: len(tree) + 1}
		tree = append(tree, api.Node{Col: -1}, api.Node{Col: -1})
		low, up = append(low, low[at], middle+1), append(up, middle, up[at])
	}
	if !leaf.Covers(lp("1 0 511 int"), tree, "0", false) || !covers(lp("1 0 511 int"), tree, "0", false) {
		t.Error("P20.1: Covers does not take halves of halves")
	}
}

// Of a program that may not be nothing is so.
func TestWhatMayNotBe(t *testing.T) {
	for k, l := range []api.LP{
		lp("x 0 1 int"), lp("1 1 0 int"), lp("1 x - int"), lp("1 0 1/0 int"), lp("1 0 1 int", "1 1 > 0"), lp("1 0 1 int", "x > 0"), lp("1 0 1 int", "1 > y"),
		{Cols: slices.Repeat(lp("0 0 1 int").Cols, 101)}, {Rows: slices.Repeat(lp("", "> 1").Rows, 441)},
		{Rows: []api.Row{{Kind: 0, Rhs: "1"}}}, {Rows: []api.Row{{Kind: 4, Rhs: "1"}}}, {Rows: []api.Row{{Kind: 3, Rhs: "1", Range: "1"}}},
	} {
		dual := slices.Repeat([]string{"1"}, len(l.Rows))
		for _, tree := range [][]api.Node{{{Col: -1, Dual: dual}}, {{Col: 0, At: "0", Left: 1, Right: 2}, {Col: -1, Dual: dual}, {Col: -1, Dual: dual}}} {
			for _, all := range []bool{false, true} {
				if leaf.Covers(l, tree, "-1000", all) {
					t.Errorf("P20.1, %d: Covers takes what may not be", k)
				}
			}
			for status := range 5 {
				if leaf.Check(l, api.Answer{Status: status}, tree) || leaf.Check(l, api.Answer{Status: status, Value: "0", X: []string{"0"}}, tree) {
					t.Errorf("P20.1, %d: Check takes what may not be", k)
				}
			}
		}
	}
}

// At a number of 2000 digits the next one has 2001; a Bound may be longer than any
// text that is read.
func TestLongNumbers(t *testing.T) {
	nines := strings.Repeat("9", 2000)
	for k, x := range []struct {
		l     api.LP
		tree  []api.Node
		floor string
		want  bool
	}{
		{lp("1 0 - int"), lay("0:"+nines+":1:2", "", ""), "0", true},
		{lp("1 0 - int"), lay("0:"+nines+":1:2", "", ""), "1", false},
		{lp("1 0 - int", "1 > 1"), lay("0:"+nines+":1:2", "1", "0"), "1", true},
		{lp("1 0 - int", "1 > 1"), lay("0:"+nines+":1:2", "1", "0"), "2", false},
		{lp("1 0 - int", "1 < 1"), lay("0:"+nines+":1:2", "0", "-1"), "0", true},
		{lp("1 0 - int", "1 < 1"), lay("0:"+nines+":1:2", "-1", "-1"), "0", false},
		{lp("1 0 - int", "1 < 1"), lay("0:"+nines+":1:2", "-1", "-1"), "-1", true},
		{lp("1 0 - int", "1 < "+nines), lay("0:"+nines+":1:2", "0", "-1"), "0", true},
		{lp("1 5 - int"), lay("0:4:1:2", "x", "0:"+nines+":3:4", "", ""), "5", true},
		{lp("1 1 " + nines + " int"), lay("0:"+nines+":1:2", "", "x"), "1", true},
		{lp("-1 - 0 int"), lay("0:-"+nines+":1:2", "", ""), "0", true},
		{lp("-1 - 0 int"), lay("0:-"+nines+":1:2", "", ""), "1", false},
		{lp("1/" + nines + " 1 - int,1/" + nines[:1999] + " 1 -"), lay("0:1:1:2", "", ""), "1/" + nines, true},
		{lp("1/" + nines + " 1 - int,1/" + nines[:1999] + " 1 -"), lay("0:1:1:2", "", ""), "11/1" + nines[:1999], false},
		{lp(nines+" "+nines+" - int,1 0 -", "1 1 > "+nines), lay("0:5:1:2", "x", "1"), nines, true},
	} {
		if got := leaf.Covers(x.l, x.tree, x.floor, false); got != x.want || covers(x.l, x.tree, x.floor, false) != x.want {
			t.Errorf("P20.1, %d: Covers of long numbers is %v", k, got)
		}
	}
}
