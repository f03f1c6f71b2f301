package corner

import (
	"fmt"
	"slices"
	"strconv"
	"testing"

	"victualler/api"
	"victualler/integer"
	"victualler/proof"
)

// everything tells all that a Corner has.
func everything(c *Corner) string {
	s := fmt.Sprint(c.cols, c.held, c.idle, texts(fractions(append([]integer.Int{c.over}, c.costs...))), c.factor.Text())
	number := func(m *measure) string {
		if m == nil {
			return "none"
		}
		return fmt.Sprint(texts(fractions([]integer.Int{m.n, m.hairs})))
	}
	for k, l := range c.limits {
		s += fmt.Sprint(" ", number(l.low), number(l.up), l.factor.Text(), l.squares.Text(), number(&c.at[k]))
		for _, t := range l.terms {
			s += fmt.Sprint(" ", t.col, texts(fractions([]integer.Int{t.n})))
		}
	}
	for k := range c.cols {
		s += fmt.Sprint(" ", texts(c.basis.Col(k)))
	}
	return s
}

// stands looks whether each limit is at what its terms come to, and whether the
// basis has those of the held ones.
func stands(t *testing.T, c *Corner) {
	t.Helper()
	x := c.point()
	sums := c.sumsOf(x)
	for k, m := range c.at {
		got, _ := m.n.By(c.over)
		want, _ := sums.n[k].By(sums.over)
		if got.Cmp(want) != 0 {
			t.Errorf("limit %d is at %s, not %s", k, got.Text(), want.Text())
		}
	}
	for place, k := range c.held {
		list := make([]integer.Int, c.cols)
		for _, term := range c.limits[k].terms {
			list[term.col] = term.n
		}
		if got, want := texts(c.basis.Col(place)), texts(fractions(list)); !slices.Equal(got, want) {
			t.Errorf("place %d has %v, not %v", place, got, want)
		}
	}
}

// A changed program's Corner is where the other one is, and leaves it as it is,
// whatever comes of it.
func TestChangesLeaveOthersAlone(t *testing.T) {
	d := dice(18)
	for range 150 {
		n := 2 + d.below(5)
		l := cone(&d, n, 1+d.below(6), 3)
		c := Start(l)
		c.Solve()
		before, point := everything(c), texts(c.point())
		m := cone(&d, n, 2, 3)
		r, col := m.Rows[0], api.Col{Cost: "0", Low: "1/7", Up: "5/3"}
		for k := range n + 1 {
			next, want := c.WithRow(r), api.LP{Cols: l.Cols, Rows: append(slices.Clone(l.Rows), r)}
			if k < n {
				col.Cost = l.Cols[k].Cost
				next, want = c.WithCol(k, col), api.LP{Cols: slices.Clone(l.Cols), Rows: l.Rows}
				want.Cols[k] = col
			}
			if got := texts(next.point()); !slices.Equal(got, point) {
				t.Fatalf("%d: a change leads from %v to %v", k, point, got)
			}
			stands(t, next)
			if a := next.Solve(); !proof.Check(want, a) {
				t.Fatalf("%d: of %v it is %v", k, want, a)
			}
			stands(t, next)
			next.ease()
			if got := everything(c); got != before {
				t.Fatalf("%d: a change made %s of %s", k, got, before)
			}
		}
		stands(t, c)
	}
}

// Behind a change there are no hairs any more, and no steps that led nowhere.
func TestChangesAreBare(t *testing.T) {
	d := dice(19)
	for range 100 {
		n := 2 + d.below(6)
		l := cone(&d, n, 2+d.below(9), 2)
		c := Start(l)
		c.ease()
		a := c.Solve()
		if !proof.Check(l, a) {
			t.Fatalf("with hairs it is %v", a)
		}
		c.idle = patience
		for k, next := range []*Corner{c.WithRow(l.Rows[0]), c.WithCol(0, l.Cols[0])} {
			if next.idle != 0 {
				t.Errorf("%d: there are %d idle steps", k, next.idle)
			}
			for j, limit := range next.limits {
				if next.at[j].hairs.Sign() != 0 || limit.low != nil && limit.low.hairs.Sign() != 0 || limit.up != nil && limit.up.hairs.Sign() != 0 {
					t.Fatalf("%d: limit %d has hairs", k, j)
				}
			}
			if b := next.Solve(); b.Status != a.Status || b.Value != a.Value {
				t.Fatalf("%d: behind no change it is %v, not %v", k, b, a)
			}
		}
	}
}

// From a corner where all is best already, it takes no step.
func TestNoStepWithoutNeed(t *testing.T) {
	d := dice(20)
	for range 50 {
		l := cone(&d, 6, 8, 3)
		c := Start(l)
		if a := c.Solve(); a.Status != api.SOptimal {
			continue
		}
		for k := range l.Cols {
			next := c.WithCol(k, l.Cols[k])
			held := slices.Clone(next.held)
			next.Solve()
			if !slices.Equal(next.held, held) || !slices.Equal(texts(next.point()), texts(c.point())) {
				t.Fatalf("without a change it goes from %v to %v", held, next.held)
			}
		}
	}
}

// A held column whose bounds have gone need not be at an end of others.
func TestHeldBesideItsEnds(t *testing.T) {
	for _, cost := range []string{"-1", "0", "1"} {
		l := api.LP{Cols: []api.Col{{Cost: cost, Low: "2", Up: "5"}, {Cost: "0", Low: "0", Up: "1"}}, Rows: []api.Row{{Kind: api.RLess, Rhs: "100", Coef: []api.Coef{{Col: 0, V: "3"}, {Col: 1, V: "2"}}}}}
		c := Start(l)
		c.Solve()
		for _, ends := range [][2]string{{"", ""}, {"0", "9"}, {"7", "8"}, {"-4/3", "-1"}, {"7/2", "7/2"}, {"2/3", ""}, {"", "1/2"}, {"1", "40"}} {
			l.Cols[0].Low, l.Cols[0].Up = ends[0], ends[1]
			next := c.WithCol(0, l.Cols[0])
			stands(t, next)
			want, got := Start(l).Solve(), next.Solve()
			if got.Status != want.Status || got.Value != want.Value || !proof.Check(l, got) {
				t.Errorf("of bounds %v and cost %s it is %v, not %v", ends, cost, got, want)
			}
		}
	}
}

// What is a corner still is gone on from: to change a bound or two of a great
// program takes a few steps.
func TestFewSteps(t *testing.T) {
	d := dice(21)
	var l api.LP
	for range 30 {
		l.Cols = append(l.Cols, api.Col{Cost: strconv.Itoa(-1 - d.below(20)), Low: "0", Up: "3"})
	}
	for range 30 {
		r := api.Row{Kind: api.RLess, Rhs: strconv.Itoa(200 + d.below(300))}
		for j := range l.Cols {
			r.Coef = append(r.Coef, api.Coef{Col: j, V: strconv.Itoa(1 + d.below(20))})
		}
		l.Rows = append(l.Rows, r)
	}
	c := Start(l)
	c.Solve()
	moved := 0
	for k := range l.Cols {
		next := c.WithCol(k, api.Col{Low: "1", Up: "2"})
		next.Solve()
		for _, limit := range next.held {
			if !slices.Contains(c.held, limit) {
				moved++
			}
		}
	}
	if moved > 4*len(l.Cols) {
		t.Errorf("%d changes put %d limits aside", len(l.Cols), moved)
	}
}
