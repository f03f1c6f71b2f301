package prob_test

import (
	"fmt"
	"math"
	"testing"

	"victualler/api"
	"victualler/prob"
)

// roomy has a good program's lists with spare room, filled with what is wrong.
func roomy() (l api.LP, x, y []string) {
	g := good()
	cols := append(make([]api.Col, 0, 9), g.Cols...)
	l.Cols = append(cols, api.Col{Cost: "spare"})[:3]
	rows := make([]api.Row, 0, 9)
	for _, r := range g.Rows {
		cs := append(make([]api.Coef, 0, 9), r.Coef...)
		r.Coef = append(cs, api.Coef{Col: -5, V: "spare"})[:len(r.Coef)]
		rows = append(rows, r)
	}
	l.Rows = append(rows, api.Row{Rhs: "spare"})[:3]
	x = append(append(make([]string, 0, 9), "1", "1/2", "1"), "spare")[:3]
	y = append(append(make([]string, 0, 9), "-1", "0", "1"), "spare")[:3]
	return l, x, y
}

// all tells all of what was handed in, spare room too.
func all(l api.LP, x, y []string) string {
	s := fmt.Sprintf("%#v %q %q", l.Cols[:cap(l.Cols)], x[:cap(x)], y[:cap(y)])
	for _, r := range l.Rows[:cap(l.Rows)] {
		s += fmt.Sprintf(" %q %d %q %q %#v", r.Name, r.Kind, r.Rhs, r.Range, r.Coef[:cap(r.Coef)])
	}
	return s
}

// everything calls all there is.
func everything(l api.LP, x, y []string) string {
	value, ok := prob.Value(l, x)
	without, okWithout := prob.Bound(l, y, false)
	with, okWith := prob.Bound(l, y, true)
	return fmt.Sprintf("%v %v %v %v %s %v %s %v %s %v", prob.May(l), prob.Fits(l, x), prob.Whole(l, x), prob.Ray(l, x), value, ok, without, okWithout, with, okWith)
}

func TestNothingIsChanged(t *testing.T) {
	l, x, y := roomy()
	before := all(l, x, y)
	first := everything(l, x, y)
	if after := all(l, x, y); after != before {
		t.Errorf("P0.3: what was handed in is changed: %s, not %s", after, before)
	}
	agrees(t, l, x, y)
	// Wrong ones neither.
	for _, turn := range []func(){
		func() { l.Rows[2].Kind = 9 },
		func() { l.Rows[2].Kind, l.Rows[0].Coef[0].Col = api.RMore, 2 },
		func() { l.Rows[0].Coef[0] = api.Coef{Col: 0, V: "0"} },
		func() { l.Rows[0].Coef[0].V, x[2], y[2] = "1", "x", "x" },
	} {
		turn()
		before = all(l, x, y)
		everything(l, x, y)
		if after := all(l, x, y); after != before {
			t.Errorf("P0.3: what was handed in is changed: %s, not %s", after, before)
		}
	}
	x[2], y[2] = "1", "1"
	if again := everything(l, x, y); again != first {
		t.Errorf("P0.5: the same again is %s, not %s", again, first)
	}
}

// What was handed in may be changed by whoever has it: nothing of it is kept.
func TestNothingIsKept(t *testing.T) {
	l, x, y := roomy()
	first := everything(l, x, y)
	l.Cols[0].Cost, l.Rows[0].Rhs, x[0], y[0] = "7", "7", "7", "-7"
	agrees(t, l, x, y)
	if everything(l, x, y) == first {
		t.Error("P0.5: an answer hangs on what was told ahead")
	}
	l.Cols[0].Cost, l.Rows[0].Rhs, x[0], y[0] = "1", "9", "1", "-1"
	if again := everything(l, x, y); again != first {
		t.Errorf("P0.5: the same again is %s, not %s", again, first)
	}
}

// A nil list is the same as an empty one.
func TestNilIsEmpty(t *testing.T) {
	for k := range 8 {
		var l api.LP
		var x []string
		if k&1 == 1 {
			l.Cols = []api.Col{}
		}
		if k&2 == 2 {
			l.Rows = []api.Row{}
		}
		if k&4 == 4 {
			x = []string{}
		}
		if got := everything(l, x, x); got != "true true true false 0 true 0 true 0 true" {
			t.Errorf("P0.4: of nothing: %s", got)
		}
		l.Rows = []api.Row{{Kind: api.RMore, Rhs: "-1"}, {Kind: api.RMore, Rhs: "-1", Coef: []api.Coef{}}}
		agrees(t, l, x, []string{"1", "2"})
		if !prob.Fits(l, x) || bound(t, l, []string{"1", "2"}, true) != "-3" {
			t.Error("P0.4: of no columns")
		}
	}
}

// Any arguments end, and none panics.
func TestAnyArguments(t *testing.T) {
	strange := []string{"", "\x00", "\xff\xfe", "-", "/", "-/", "9/", "1/0", "0", "-1", "1/3", nines, nines + nines}
	for _, a := range strange {
		for _, b := range strange {
			for _, kind := range []int{math.MinInt, -1, 0, 1, 2, 3, 4, math.MaxInt} {
				for _, col := range []int{math.MinInt, -1, 0, 1, math.MaxInt} {
					l := api.LP{Cols: []api.Col{{Name: a, Low: b, Up: a, Cost: b, Int: true}}, Rows: []api.Row{{Name: a, Kind: kind, Coef: []api.Coef{{Col: col, V: a}}, Rhs: b}}}
					agrees(t, l, []string{a}, []string{b})
					l.Cols[0].Low, l.Cols[0].Up, l.Cols[0].Cost = "", b, "1"
					agrees(t, l, []string{b}, []string{a})
				}
			}
		}
	}
}
