package dual_test

import (
	"fmt"
	"reflect"
	"slices"
	"sync"
	"testing"

	"victualler/api"
	"victualler/dual"
)

// change is a row, or, if it has a column of 0 or more, bounds.
type change struct {
	r       api.Row
	col     int
	low, up string
}

// changes throws some, now and then such as may not be.
func (d *dice) changes(columns, count int) (list []change) {
	for range count {
		c := change{r: d.row(columns), col: -1}
		if columns > 0 && d.below(2) == 0 {
			c.col = d.below(columns)
			c.low, c.up = d.ends()
		}
		if d.below(8) == 0 {
			c.r.Kind, c.low = 9, "wrong"
		}
		list = append(list, c)
	}
	return list
}

func (c change) to(s *dual.State) (api.Answer, bool) {
	if c.col >= 0 {
		return s.Bounds(c.col, c.low, c.up)
	}
	return s.Row(c.r)
}

// all are the answers of one change behind the other, each beside what the program
// is then.
func all(s *dual.State, list []change) string {
	text := fmt.Sprintf("%q", fmt.Sprint(s.LP()))
	for _, c := range list {
		a, ok := c.to(s)
		text += fmt.Sprintf(" %v %v %q", a, ok, fmt.Sprint(s.LP()))
	}
	return text
}

// A copy is alike: it answers the same, whatever the other one is told.
func TestCopiesAreAlike(t *testing.T) {
	d := dice(3)
	for range 150 {
		l := d.program(d.below(5), d.below(4))
		ahead, first, second := d.changes(len(l.Cols), d.below(4)), d.changes(len(l.Cols), 4), d.changes(len(l.Cols), 4)
		one := func() *dual.State {
			s, _, _ := dual.New(l)
			all(s, ahead)
			return s
		}
		wantFirst, wantSecond := all(one(), first), all(one(), second)
		s := one()
		u, v := s.Copy(), s.Copy()
		w := u.Copy()
		for k, x := range []struct {
			s    *dual.State
			list []change
			want string
		}{{s, first, wantFirst}, {u, second, wantSecond}, {v, first, wantFirst}, {w, first, wantFirst}} {
			if got := all(x.s, x.list); got != x.want {
				t.Fatalf("P17.1, %d: of a copy it is %s, not %s", k, brief(got), brief(x.want))
			}
		}
		// What a copy is told step by step changes nothing of the other one.
		s = one()
		u = s.Copy()
		text := fmt.Sprintf("%q", fmt.Sprint(s.LP()))
		for k, c := range first {
			a, ok := c.to(s)
			second[k].to(u)
			text += fmt.Sprintf(" %v %v %q", a, ok, fmt.Sprint(s.LP()))
		}
		if text != wantFirst {
			t.Fatalf("P17.1: beside a copy it is %s, not %s", brief(text), brief(wantFirst))
		}
	}
}

// Of an object that is gone a copy is there still.
func TestCopyIsItsOwn(t *testing.T) {
	s, _, _ := dual.New(good())
	u := s.Copy()
	*s = dual.State{}
	x := &asked{t, "a copy", u, good(), api.Answer{}}
	x.step("0: 0 5")
	x.step("1 0 0 > 1")
	*u = dual.State{}
	if !same(u.LP(), api.LP{}) || same(x.l, api.LP{}) {
		t.Error("P17.1: a State is not what was laid over it")
	}
}

// Copies may be asked at the same time, and each answers what it would alone.
func TestCopiesAtOnce(t *testing.T) {
	d := dice(4)
	l := d.program(6, 6)
	var lists [][]change
	for range 8 {
		lists = append(lists, d.changes(6, 6))
	}
	s, _, _ := dual.New(l)
	all(s, lists[0])
	var want []string
	for _, list := range lists {
		want = append(want, all(s.Copy(), list))
	}
	var wait sync.WaitGroup
	for k, list := range lists {
		u := s.Copy()
		wait.Go(func() {
			if got := all(u, list); got != want[k] {
				t.Errorf("P0.5: at once it is %s, not %s", brief(got), brief(want[k]))
			}
		})
	}
	wait.Wait()
}

// The same comes of the same changes, whatever is asked in between.
func TestTheSameEachTime(t *testing.T) {
	d := dice(5)
	for range 60 {
		l := d.program(d.below(6), d.below(6))
		list := d.changes(len(l.Cols), 6)
		s, first, _ := dual.New(l)
		want := all(s, list)
		for range 3 {
			s, again, _ := dual.New(l)
			if got := all(s, list); got != want || !reflect.DeepEqual(again, first) {
				t.Fatalf("P0.5: again it is %s, not %s", brief(got), brief(want))
			}
		}
	}
}

// roomy has a program's lists with spare room, filled with what is wrong.
func roomy(l api.LP) api.LP {
	var m api.LP
	m.Cols = append(slices.Clone(l.Cols), api.Col{Cost: "spare"})[:len(l.Cols)]
	for _, r := range l.Rows {
		m.Rows = append(m.Rows, roomyRow(r))
	}
	m.Rows = append(m.Rows, api.Row{Rhs: "spare"})[:len(l.Rows)]
	return m
}

func roomyRow(r api.Row) api.Row {
	r.Coef = append(slices.Clone(r.Coef), api.Coef{Col: -5, V: "spare"})[:len(r.Coef)]
	return r
}

// told tells all of a program, spare room too.
func told(l api.LP) string {
	s := fmt.Sprintf("%#v %d", l.Cols[:cap(l.Cols)], len(l.Cols))
	for _, r := range l.Rows[:cap(l.Rows)] {
		s += fmt.Sprintf(" %q %d %q %q %#v", r.Name, r.Kind, r.Rhs, r.Range, r.Coef[:cap(r.Coef)])
	}
	return s
}

// write writes over all that a program has, spare room too.
func write(l api.LP) {
	for k := range l.Rows[:cap(l.Rows)] {
		r := &l.Rows[:cap(l.Rows)][k]
		for j := range r.Coef[:cap(r.Coef)] {
			r.Coef[:cap(r.Coef)][j] = api.Coef{Col: 77, V: "written"}
		}
		*r = api.Row{Rhs: "written"}
	}
	for k := range l.Cols[:cap(l.Cols)] {
		l.Cols[:cap(l.Cols)][k] = api.Col{Cost: "written"}
	}
}

func writeAnswer(a api.Answer) {
	for _, list := range [][]string{a.X, a.Dual, a.Ray} {
		for k := range list[:cap(list)] {
			list[:cap(list)][k] = "written"
		}
	}
}

// What is handed in is neither changed nor kept, and what is answered is new
// memory: whoever writes into either changes nothing.
func TestMemory(t *testing.T) {
	d := dice(6)
	for range 150 {
		l := d.program(d.below(5), d.below(5))
		list := d.changes(len(l.Cols), 5)
		plain, first, _ := dual.New(l)
		want := all(plain, list)

		m := roomy(l)
		before := told(m)
		s, a, _ := dual.New(m)
		if told(m) != before || !reflect.DeepEqual(a, first) {
			t.Fatalf("P0.3: New made %s of %s", brief(told(m)), brief(before))
		}
		write(m)
		writeAnswer(a)
		text := fmt.Sprintf("%q", fmt.Sprint(s.LP()))
		for _, c := range list {
			c.r = roomyRow(c.r)
			in := told(api.LP{Rows: []api.Row{c.r}})
			a, ok := c.to(s)
			if got := told(api.LP{Rows: []api.Row{c.r}}); got != in {
				t.Fatalf("P0.3: Row made %s of %s", got, in)
			}
			write(api.LP{Rows: []api.Row{c.r}})
			out, again := s.LP(), s.LP()
			text += fmt.Sprintf(" %v %v %q", a, ok, fmt.Sprint(out))
			writeAnswer(a)
			write(out)
			if third := s.LP(); !same(again, third) {
				t.Fatalf("P0.3: to write into LP made %s of %s", brief(third), brief(again))
			}
		}
		if text != want {
			t.Fatalf("P0.3: among what is written it is %s, not %s", brief(text), brief(want))
		}
	}
}

// No two lists of one answer are in the same memory.
func TestListsOfAnAnswer(t *testing.T) {
	d := dice(7)
	for range 100 {
		s, _, _ := dual.New(d.program(3, 3))
		a, _ := s.Row(d.row(3))
		b := api.Answer{X: slices.Clone(a.X), Dual: slices.Clone(a.Dual), Ray: slices.Clone(a.Ray)}
		writeAnswer(api.Answer{X: a.X})
		if !slices.Equal(a.Dual, b.Dual) || !slices.Equal(a.Ray, b.Ray) {
			t.Error("P0.3: X has memory with another list")
		}
		copy(a.X, b.X)
		writeAnswer(api.Answer{Dual: a.Dual})
		if !slices.Equal(a.X, b.X) || !slices.Equal(a.Ray, b.Ray) {
			t.Error("P0.3: Dual has memory with another list")
		}
		l := s.LP()
		before := s.LP()
		for k := range l.Rows {
			clear(l.Rows[k].Coef[:cap(l.Rows[k].Coef)])
			for j := range l.Rows {
				if j > k && !slices.Equal(l.Rows[j].Coef, before.Rows[j].Coef) {
					t.Errorf("P0.3: rows %d and %d have memory in common", k, j)
				}
			}
		}
	}
}

// A nil list is as an empty one.
func TestNilLists(t *testing.T) {
	x := begin(t, "empty lists", api.LP{Cols: []api.Col{}, Rows: []api.Row{}})
	y := begin(t, "nil lists", api.LP{})
	x.row(api.Row{Kind: api.RMore, Rhs: "0", Coef: []api.Coef{}})
	y.row(api.Row{Kind: api.RMore, Rhs: "0"})
	x.is(best, "0")
	y.is(best, "0")
	x.row(api.Row{Kind: api.RMore, Rhs: "1"})
	y.row(api.Row{Kind: api.RMore, Rhs: "1", Coef: []api.Coef{}})
	x.is(none, "")
	y.is(none, "")
	if !same(x.s.LP(), y.s.LP()) {
		t.Errorf("P0.4: %v is not %v", x.s.LP(), y.s.LP())
	}
}
