package simplex_test

import (
	"fmt"
	"reflect"
	"slices"
	"sync"
	"testing"

	"victualler/api"
	"victualler/simplex"
)

// roomy has the lists of a program with spare room, filled with what is wrong.
func roomy(l api.LP) api.LP {
	var m api.LP
	m.Cols = append(append(make([]api.Col, 0, 20), l.Cols...), api.Col{Cost: "spare"})[:len(l.Cols)]
	for _, r := range l.Rows {
		cs := append(append(make([]api.Coef, 0, 20), r.Coef...), api.Coef{Col: -5, V: "spare"})
		r.Coef = cs[:len(r.Coef)]
		m.Rows = append(m.Rows, r)
	}
	m.Rows = append(m.Rows, api.Row{Rhs: "spare"})[:len(l.Rows)]
	return m
}

// all tells all of a program, spare room too.
func all(l api.LP) string {
	s := fmt.Sprintf("%#v", l.Cols[:cap(l.Cols)])
	for _, r := range l.Rows[:cap(l.Rows)] {
		s += fmt.Sprintf(" %#v %#v", r, r.Coef[:cap(r.Coef)])
	}
	return s
}

// some are programs of each Status, and such as may not be.
func some() []api.LP {
	list := []api.LP{good(), lp(""), lp("", "> 1"), lp("1 0 1", "1 > 2"), lp("-1 0 -,0 0 -", "1 -1 < 3"), lp("x 0 1"), lp("1 1 0"), lp("1 0 1", "1 1 < 2")}
	d := dice(16)
	for range 40 {
		list = append(list, thrown(&d, 1+d.below(5), 1+d.below(5)))
	}
	return list
}

func TestProgramsAreNotChanged(t *testing.T) {
	for _, l := range some() {
		m := roomy(l)
		before := all(m)
		want, ok := simplex.Solve(l)
		got, okRoomy := simplex.Solve(m)
		if after := all(m); after != before {
			t.Errorf("P0.3: what was handed in is changed: %s, not %s", after, before)
		}
		if ok != okRoomy || !reflect.DeepEqual(got, want) {
			t.Errorf("P0.5: with spare room it is %v, not %v", got, want)
		}
	}
}

// write writes over all that an answer has, spare room too.
func write(a api.Answer) {
	for _, list := range [][]string{a.X, a.Dual, a.Ray} {
		list = list[:cap(list)]
		for k := range list {
			list[k] = "written"
		}
	}
}

// Who writes into an answer, or into the program behind the call, changes
// neither another answer nor another list of the same one.
func TestAnswersAreNewMemory(t *testing.T) {
	for _, l := range some() {
		m := roomy(l)
		want, _ := simplex.Solve(m)
		first, _ := simplex.Solve(m)
		write(first)
		second, _ := simplex.Solve(m)
		if !reflect.DeepEqual(second, want) {
			t.Errorf("P0.3: behind what was written it is %v, not %v", second, want)
		}
		for k := range m.Cols {
			m.Cols[k] = api.Col{Cost: "written"}
		}
		for k := range m.Rows {
			clear(m.Rows[k].Coef)
			m.Rows[k] = api.Row{}
		}
		if again, _ := simplex.Solve(l); !reflect.DeepEqual(second, want) || !reflect.DeepEqual(again, want) {
			t.Errorf("P0.3: %v hangs on what was handed in", second)
		}
		x, dual, ray := slices.Clone(second.X), slices.Clone(second.Dual), slices.Clone(second.Ray)
		write(api.Answer{X: second.X})
		if !slices.Equal(second.Dual, dual) || !slices.Equal(second.Ray, ray) {
			t.Error("P0.3: X has memory with another list")
		}
		copy(second.X, x)
		write(api.Answer{Dual: second.Dual})
		if !slices.Equal(second.X, x) || !slices.Equal(second.Ray, ray) {
			t.Error("P0.3: Dual has memory with another list")
		}
	}
}

// The same comes of the same, whatever was asked in between, and beside it.
func TestTheSameEachTime(t *testing.T) {
	list := some()
	var want []api.Answer
	for _, l := range list {
		a, _ := simplex.Solve(l)
		want = append(want, a)
	}
	var wait sync.WaitGroup
	for round := range 4 {
		wait.Go(func() {
			for k := range list {
				k = (k*7 + round) % len(list)
				if a, _ := simplex.Solve(list[k]); !reflect.DeepEqual(a, want[k]) {
					t.Errorf("P0.5: again it is %v, not %v", a, want[k])
				}
			}
		})
	}
	wait.Wait()
}
