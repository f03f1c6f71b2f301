package mip_test

import (
	"fmt"
	"math"
	"reflect"
	"strconv"
	"testing"

	"victualler/api"
	"victualler/mip"
)

// knapsack packs what is dear and heavy, each thing up to so many times.
func knapsack(d *dice, things, rows, most int) api.LP {
	var l api.LP
	for range things {
		l.Cols = append(l.Cols, api.Col{Cost: strconv.Itoa(-1 - d.below(20)), Low: "0", Up: strconv.Itoa(most), Int: true})
	}
	for range rows {
		r, all := api.Row{Kind: api.RLess}, 0
		for k := range things {
			v := 1 + d.below(20)
			r.Coef = append(r.Coef, api.Coef{Col: k, V: strconv.Itoa(v)})
			all += v * most
		}
		r.Rhs = strconv.Itoa(all / 2)
		l.Rows = append(l.Rows, r)
	}
	return l
}

// apart asks of two whole numbers up to so many that they be a half apart, which takes
// the more nodes the more there are.
func apart(most int) api.LP {
	up := strconv.Itoa(most)
	return lp("0 0 "+up+" int,0 0 "+up+" int", "2 -2 = 1")
}

func isSpent(t *testing.T, what string, l api.LP, deep bool, nodes int) {
	t.Helper()
	if a, tree, e := mip.Solve(l, deep, nodes); e != api.OK || tree != nil || !reflect.DeepEqual(a, api.Answer{Status: spent}) {
		t.Errorf("P19.1: %s, %d nodes: Solve is %v, %v, %d", what, nodes, a, tree, e)
	}
}

// A tree of so many nodes needs a budget of as many, and by any greater one it is the
// same.
func TestBudget(t *testing.T) {
	d := dice(1)
	for k, l := range []api.LP{
		lp("3 2 2 int"), lp("1 1/3 2/3 int"), lp("-5 0 9 int,-4 0 9 int", "6 4 < 24", "1 2 < 6"), apart(3), apart(9),
		lp("1 0 1 int", "1 > 2"), lp("1 0 3 int,1 0 3 int", "3 5 > 7"), lp("-1 0 1 int,-1 0 1 int,-1 0 1 int,1 0 -", "2 2 2 -2 < 3"),
		knapsack(&d, 5, 1, 3), knapsack(&d, 4, 2, 5), knapsack(&d, 8, 2, 1), knapsack(&d, 10, 3, 1),
	} {
		for _, deep := range []bool{false, true} {
			what := fmt.Sprint("budget ", k, deep)
			a, tree := solved(t, what, l, deep, 0)
			if a.Status == spent {
				t.Fatalf("P19.1: %s: Solve is spent", what)
			}
			for nodes := 1; nodes < len(tree); nodes++ {
				isSpent(t, what, l, deep, nodes)
			}
			for _, nodes := range []int{len(tree), len(tree) + 1, 299, 300, 301, 100_000, math.MaxInt, 0, -1, -300, math.MinInt} {
				if b, same := solved(t, what, l, deep, nodes); !reflect.DeepEqual(b, a) || !reflect.DeepEqual(same, tree) {
					t.Errorf("P19.1: %s: by %d nodes Solve is another one", what, nodes)
				}
			}
		}
	}
}

// Where it goes below all the nodes count, too.
func TestBudgetOfWhatHasNoEnd(t *testing.T) {
	l := lp("0 0 3 int,0 0 3 int,-1 0 -", "4 -2 0 = 2", "3 5 0 > 7")
	for _, deep := range []bool{false, true} {
		enough := 1
		for ; ; enough++ {
			if a, _ := solved(t, "no end", l, deep, enough); a.Status == free {
				break
			}
			isSpent(t, "no end", l, deep, enough)
		}
		a, _ := solved(t, "no end", l, deep, 0)
		for nodes := enough; nodes < 40; nodes++ {
			if b, _ := solved(t, "no end", l, deep, nodes); !reflect.DeepEqual(a, b) {
				t.Errorf("P19.1: by %d nodes it is %v, not %v", nodes, b, a)
			}
		}
		if enough < 2 || enough > 39 {
			t.Errorf("the program is poor: %d nodes", enough)
		}
		isSpent(t, "no end, nothing whole", lp("0 0 100000 int,0 0 100000 int,-1 0 -", "2 -2 0 = 1"), deep, 0)
	}
}

// More than 300 nodes are too many, whatever the budget is.
func TestMaxNodes(t *testing.T) {
	for _, deep := range []bool{false, true} {
		greatest, over := 0, false
		for most := 1; most < 400; most += 7 {
			a, tree := solved(t, fmt.Sprint("apart ", most), apart(most), deep, 0)
			if a.Status == spent {
				over = true
				for _, nodes := range []int{299, 300, 301, 302, 601, 1000, math.MaxInt, -1, math.MinInt} {
					isSpent(t, fmt.Sprint("apart ", most), apart(most), deep, nodes)
				}
				break
			}
			greatest = max(greatest, len(tree))
		}
		if greatest < 200 || !over {
			t.Errorf("P19.1: the greatest tree has %d nodes, more than 300 are spent: %v", greatest, over)
		}
		isSpent(t, "far apart", apart(100_000), deep, 0)
	}
}

// The node that is parted next is the newest that is there if it is deep, else the
// oldest; where its parts stand tells when that was.
func TestOrder(t *testing.T) {
	d := dice(2)
	var great [2]int
	for k := range 60 {
		l := knapsack(&d, 4+d.below(6), 1+d.below(3), 1+d.below(3))
		for side, deep := range []bool{false, true} {
			_, tree := solved(t, fmt.Sprint("order ", k), l, deep, 0)
			if len(tree) > 20 {
				great[side]++
			}
			for a, n := range tree {
				for b, m := range tree[:a] {
					if n.Col < 0 || m.Col < 0 {
						continue
					}
					// b stands ahead of a; was a there when b was parted?
					partedA, partedB := min(n.Left, n.Right), min(m.Left, m.Right)
					if wantA := deep && a < partedB; wantA != (partedA < partedB) {
						t.Fatalf("P19.1: order %d, deep %v: %d is parted to %d, %d to %d", k, deep, b, partedB, a, partedA)
					}
				}
			}
		}
	}
	if great[0] < 10 || great[1] < 10 {
		t.Errorf("the throws are poor: %v", great)
	}
}

// A budget goes farther the fewer nodes there are. What is worth no less than what was
// found is not parted, and columns are chosen with care: so there are no more than so
// many of these in all.
func TestFewNodes(t *testing.T) {
	d := dice(3)
	var nodes [2]int
	for k := range 60 {
		l := knapsack(&d, 8, 3, 1)
		switch k % 3 {
		case 1:
			l = covering(&d, 9, 7, 2)
		case 2:
			l = knapsack(&d, 5, 2, 4)
		}
		for side, deep := range []bool{false, true} {
			a, tree := solved(t, fmt.Sprint("few nodes ", k), l, deep, 0)
			if nodes[side] += len(tree); a.Status != best {
				t.Errorf("P19.1: few nodes %d: it is %d", k, a.Status)
			}
		}
	}
	if nodes[0] > 1650 || nodes[1] > 1520 {
		t.Errorf("P19.1: there are %d nodes, deep %d", nodes[0], nodes[1])
	}
}
