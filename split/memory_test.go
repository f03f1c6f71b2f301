package split_test

import (
	"fmt"
	"reflect"
	"slices"
	"testing"

	"victualler/api"
	"victualler/split"
)

// block is the memory of a list, its spare room too.
type block struct{ from, to uintptr }

// blocksOf are those of all lists in x that have room.
func blocksOf(x reflect.Value) []block {
	var all []block
	switch x.Kind() {
	case reflect.Struct:
		for k := range x.NumField() {
			all = append(all, blocksOf(x.Field(k))...)
		}
	case reflect.Slice:
		if x.Cap() > 0 {
			all = append(all, block{x.Pointer(), x.Pointer() + uintptr(x.Cap())*x.Type().Elem().Size()})
		}
		for k := range x.Len() {
			all = append(all, blocksOf(x.Index(k))...)
		}
	}
	return all
}

// apart tells whether no two share any memory.
func apart(all []block) bool {
	slices.SortFunc(all, func(a, b block) int {
		if a.from < b.from {
			return -1
		}
		return 1
	})
	for k := range len(all) - 1 {
		if all[k].to > all[k+1].from {
			return false
		}
	}
	return true
}

// bound is good with Ranges in both stages.
func bound() api.Core {
	c := good()
	for k := range c.Rows {
		c.Rows[k].Range = []string{"3", "", "-1"}[k%3]
	}
	return c
}

// No two lists share any memory: neither two of one answer, nor of two answers,
// nor with what was handed in.
func TestAnswersAreNewMemory(t *testing.T) {
	full, ps := sized(20, 20, 10, 10)
	bind(full.Rows, api.REqual)
	for k := range full.Rows {
		for col := range 20 + 20*(k/10) {
			full.Rows[k].Coef = append(full.Rows[k].Coef, api.Coef{Col: col, V: "1"})
		}
	}
	for k, x := range []struct {
		c  api.Core
		ps []api.Period
	}{{good(), halves()}, {bound(), halves()}, {bound(), at("b", "cap")}, {bound(), at("z", "bare")}, {full, ps}} {
		// Where the second stage begins elsewhere, the first rows have less.
		if k == 2 || k == 3 {
			for row := range x.c.Rows {
				x.c.Rows[row].Coef = coefs(0, "1")
			}
			for col := range x.c.Cols {
				x.c.Cols[col].Low, x.c.Cols[col].Up, x.c.Cols[col].Int = "0", "1", false
			}
		}
		a, e := split.Of(x.c, x.ps)
		b, _ := split.Of(x.c, x.ps)
		if e != api.OK || !apart(blocksOf(reflect.ValueOf(struct {
			c    api.Core
			ps   []api.Period
			a, b api.Two
		}{x.c, x.ps, a, b}))) {
			t.Errorf("P0.3: Of of %d: error %d, or lists that share memory", k, e)
		}
		scribble(a)
		if c, _ := split.Of(x.c, x.ps); !reflect.DeepEqual(b, c) {
			t.Errorf("P0.3: Of of %d: what is written into one answer is in another one", k)
		}
	}
}

// scribble writes over all of an answer, its spare room too.
func scribble(two api.Two) {
	for _, l := range []api.LP{two.First, two.Second} {
		for _, row := range l.Rows {
			blot(row.Coef)
		}
		for k := range l.Cols[:cap(l.Cols)] {
			l.Cols[:cap(l.Cols)][k] = api.Col{Name: "blot"}
		}
		for k := range l.Rows[:cap(l.Rows)] {
			l.Rows[:cap(l.Rows)][k] = api.Row{Name: "blot"}
		}
	}
	for k := range two.Tech {
		blot(two.Tech[k])
		two.Tech[k] = coefs(99, "blot")
	}
}

func blot(cs []api.Coef) {
	for k := range cs[:cap(cs)] {
		cs[:cap(cs)][k] = api.Coef{Col: 99, V: "blot"}
	}
}

// roomy is c with spare room behind all lists, in which nothing may change.
func roomy(c api.Core) api.Core {
	for k := range c.Rows {
		c.Rows[k].Coef = append(slices.Clip(c.Rows[k].Coef), api.Coef{Col: 77, V: "spare"})[:len(c.Rows[k].Coef)]
	}
	c.Rows = append(slices.Clip(c.Rows), api.Row{Name: "spare"})[:len(c.Rows)]
	c.Cols = append(slices.Clip(c.Cols), api.Col{Name: "spare"})[:len(c.Cols)]
	return c
}

// spread tells all of c and ps, their spare room too.
func spread(c api.Core, ps []api.Period) string {
	all := fmt.Sprintf("%v %v %v %v", c.Name, c.Obj, c.Cols[:cap(c.Cols)], ps[:cap(ps)])
	for _, row := range c.Rows[:cap(c.Rows)] {
		all += fmt.Sprintf("\n%v %v", row, row.Coef[:cap(row.Coef)])
	}
	return all
}

func TestNothingChanges(t *testing.T) {
	faults := append(sharedFaults(), ownFaults()...)
	for bits := range 1 << len(faults) {
		if bits&(bits-1) != 0 {
			continue
		}
		_, c, ps := some(faults, bits)
		for k := range c.Rows {
			c.Rows[k].Range = []string{"", "3", ""}[k%3]
		}
		c, ps = roomy(c), append(slices.Clip(ps), api.Period{Name: "spare"})[:len(ps)]
		was := spread(c, ps)
		first, e := split.Of(c, ps)
		for _, row := range []string{"need", "link", "cap", "cost", "q"} {
			for _, col := range colNames {
				if a, b := place(c, ps, api.Place{Col: col, Row: row}), place(c, ps, api.Place{Col: col, Row: row}); a != b {
					t.Errorf("P0.5: Place answers %v, then %v", a, b)
				}
			}
		}
		if again, f := split.Of(c, ps); f != e || !reflect.DeepEqual(again, first) {
			t.Errorf("P0.5: Of answers error %d, then %d: %v, %v", e, f, first, again)
		}
		if got := spread(c, ps); got != was {
			t.Errorf("P0.3: what is handed in is changed: %s, then %s", was, got)
		}
	}
}

// Lists that are empty are as nil ones.
func TestNilIsEmpty(t *testing.T) {
	c := good()
	c.Rows[5].Coef = []api.Coef{}
	parts(t, "an empty row", c, halves(), goodTwo())
	c.Rows[0].Coef = []api.Coef{}
	want := goodTwo()
	want.First.Rows[0].Coef = nil
	parts(t, "an empty first row", c, halves(), want)
	c.Rows[2].Coef = coefs(0, "1")
	c.Rows = c.Rows[2:3]
	want = api.Two{First: api.LP{Cols: want.First.Cols}, Second: api.LP{Cols: want.Second.Cols, Rows: []api.Row{{Name: "need", Kind: api.RMore, Rhs: "1"}}}, Tech: [][]api.Coef{coefs(0, "1")}}
	parts(t, "no first rows", c, halves(), want)
	for _, c := range []api.Core{{}, {Name: "T", Obj: "c"}, {Name: "T", Obj: "c", Rows: []api.Row{}, Cols: []api.Col{}}} {
		for _, ps := range [][]api.Period{nil, {}} {
			want := api.ErrForm
			if c.Name == "" {
				want = api.ErrName
			}
			refuses(t, "nothing", c, ps, want)
			nowhere(t, "nothing", c, ps, api.Place{}, want)
		}
	}
}
