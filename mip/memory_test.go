package mip_test

import (
	"fmt"
	"reflect"
	"slices"
	"sync"
	"testing"

	"victualler/api"
	"victualler/mip"
)

// of each Status there is a program.
func programs() []api.LP {
	return []api.LP{lp("-5 0 9 int,-4 0 9 int", "6 4 < 24", "1 2 < 6"), lp("0 0 1 int,0 0 1 int", "2 2 = 1"), lp("0 0 3 int,0 0 3 int,-1 0 -", "4 -2 0 = 2", "3 5 0 > 7"), apart(100_000)}
}

// What is handed in is neither changed nor kept, spare room neither.
func TestWhatIsHandedIn(t *testing.T) {
	for k, l := range programs() {
		want, tree, _ := mip.Solve(l, true, 50)
		l.Cols = append(l.Cols, api.Col{Cost: "spare"})[:len(l.Cols)]
		l.Rows = append(l.Rows, api.Row{Rhs: "spare"})[:len(l.Rows)]
		for j, r := range l.Rows {
			l.Rows[j].Coef = append(r.Coef, api.Coef{Col: -5, V: "spare"})[:len(r.Coef)]
		}
		text := func() string {
			s := fmt.Sprintf("%q %q", fmt.Sprint(l.Cols[:cap(l.Cols)]), fmt.Sprint(l.Rows[:cap(l.Rows)]))
			for _, r := range l.Rows {
				s += fmt.Sprint(r.Coef[:cap(r.Coef)])
			}
			return s
		}
		before := text()
		a, same, e := mip.Solve(l, true, 50)
		if e != api.OK || text() != before {
			t.Errorf("P0.3, %d: Solve made %s of %s", k, text(), before)
		}
		for j := range l.Cols {
			l.Cols[j] = api.Col{Cost: "written"}
		}
		for j, r := range l.Rows {
			r.Coef[0].V = "written"
			l.Rows[j].Rhs = "written"
		}
		if !reflect.DeepEqual(a, want) || !reflect.DeepEqual(same, tree) {
			t.Errorf("P0.3, %d: to write into a program made %v of %v", k, a, want)
		}
	}
}

// lists are all that an answer and a tree have.
func lists(a api.Answer, tree []api.Node) [][]string {
	all := [][]string{a.X, a.Dual, a.Ray}
	for _, n := range tree {
		all = append(all, n.Dual)
	}
	return all
}

// What is answered is new memory, spare room too, and no two lists of it have any in
// common.
func TestWhatIsAnswered(t *testing.T) {
	for k, l := range programs() {
		for _, deep := range []bool{false, true} {
			want, tree, _ := mip.Solve(l, deep, 0)
			a, same, _ := mip.Solve(l, deep, 0)
			all, kept := lists(a, same), lists(want, tree)
			for j, list := range all {
				was := slices.Clone(list)
				for i := range list[:cap(list)] {
					list[:cap(list)][i] = "written"
				}
				for i := range all {
					if i != j && !slices.Equal(all[i], kept[i]) {
						t.Errorf("P0.3, %d: lists %d and %d have memory in common", k, j, i)
					}
				}
				copy(list, was)
			}
			for j := range same[:cap(same)] {
				same[:cap(same)][j] = api.Node{Col: 77, At: "written"}
			}
			if b, again, _ := mip.Solve(l, deep, 0); !reflect.DeepEqual(b, want) || !reflect.DeepEqual(again, tree) {
				t.Errorf("P0.5, %d: the same again is %v, not %v", k, b, want)
			}
		}
	}
}

// A nil list is as an empty one.
func TestNilLists(t *testing.T) {
	for _, l := range []api.LP{{}, {Cols: []api.Col{}}, {Rows: []api.Row{}}, {Cols: []api.Col{}, Rows: []api.Row{}}} {
		is(t, "nothing", l, best, "0")
	}
	l := lp("1 1/2 3/2 int")
	l.Rows = []api.Row{{Kind: api.RLess, Rhs: "1", Coef: []api.Coef{}}, {Kind: api.RLess, Rhs: "1"}}
	is(t, "empty rows", l, best, "1")
}

// The same comes of the same, also at the same time.
func TestAtOnce(t *testing.T) {
	var wait sync.WaitGroup
	for _, l := range programs() {
		for _, deep := range []bool{false, true} {
			want, tree, _ := mip.Solve(l, deep, 40)
			for range 4 {
				wait.Go(func() {
					if a, same, e := mip.Solve(l, deep, 40); e != api.OK || !reflect.DeepEqual(a, want) || !reflect.DeepEqual(same, tree) {
						t.Errorf("P0.5: at once it is %v, not %v", a, want)
					}
				})
			}
		}
	}
	wait.Wait()
}
