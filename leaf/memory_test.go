package leaf_test

import (
	"fmt"
	"slices"
	"sync"
	"testing"

	"victualler/api"
	"victualler/leaf"
)

// What is handed in is neither changed nor kept, spare room neither.
func TestMemory(t *testing.T) {
	l := two()
	l.Cols = append(slices.Clone(l.Cols), api.Col{Cost: "spare"})[:2]
	l.Rows = append(slices.Clone(l.Rows), api.Row{Rhs: "spare"})[:2]
	tree := append(proof(), api.Node{Col: 7, At: "spare"})[:5]
	for k, n := range tree {
		tree[k].Dual = append(slices.Clone(n.Dual), "spare")[:len(n.Dual)]
	}
	a := answer(best, "-20", "4 0", "", "")
	a.X = append(a.X, "spare")[:2]
	text := func() string {
		s := fmt.Sprintf("%v %v %v %q", l.Cols[:3], l.Rows[:3], tree[:6], a.X[:3])
		for _, n := range tree {
			s += fmt.Sprintf(" %q", n.Dual[:cap(n.Dual)])
		}
		return s
	}
	before := text()
	for range 2 {
		if !leaf.Check(l, a, tree) || !leaf.Covers(l, tree, "-20", false) || leaf.Covers(l, tree, "-20", true) {
			t.Error("P0.5: the same is not taken again")
		}
		if text() != before {
			t.Errorf("P0.3: what was handed in is %s, not %s", text(), before)
		}
	}
	for k, turn := range []func(){
		func() { tree[1].Dual[1] = "0" },
		func() { tree[1].Dual[1], tree[0].At = "-5", "2" },
		func() { tree[0].At, tree[2].Left = "1", 4 },
		func() { tree[2].Left, l.Cols[0].Cost = 3, "-6" },
		func() { l.Cols[0].Cost, l.Rows[0].Rhs = "-5", "30" },
	} {
		turn()
		before = text()
		if leaf.Check(l, a, tree) || leaf.Covers(l, tree, "-20", false) || text() != before {
			t.Errorf("P0.5, %d: what was told ahead counts", k)
		}
	}
	l.Rows[0].Rhs = "24"
	if !leaf.Check(l, a, tree) {
		t.Error("P0.5: what was told in between counts")
	}
}

// It may be asked at the same time.
func TestAtOnce(t *testing.T) {
	l, tree := two(), proof()
	var wait sync.WaitGroup
	for range 8 {
		wait.Go(func() {
			for range 20 {
				if !leaf.Covers(l, tree, "-20", false) || leaf.Covers(l, tree, "-19", false) {
					t.Error("P0.5: at once it is another one")
				}
			}
		})
	}
	wait.Wait()
}
