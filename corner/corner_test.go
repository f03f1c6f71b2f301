package corner

import (
	"slices"
	"strconv"
	"testing"

	"victualler/api"
	"victualler/frac"
	"victualler/integer"
	"victualler/prob"
)

// What is asked here seldom or never comes about in a program, and is there lest
// a call go round: the hairs, and Bland's rule.

func TestMeasures(t *testing.T) {
	list := []measure{}
	for n := int64(-2); n <= 2; n++ {
		for hairs := int64(-2); hairs <= 2; hairs++ {
			list = append(list, measure{integer.Of(n), integer.Of(hairs)})
		}
	}
	// One behind the other: 5 numbers, each with 5 numbers of hairs.
	for k, m := range list {
		for j, w := range list {
			sum := m.plus(w)
			if m.less(w).sign() != compare(k, j) {
				t.Errorf("%v less %v has sign %d", m, w, m.less(w).sign())
			}
			if sum.less(w) != m || sum.less(m) != w || m.turned().plus(m).sign() != 0 {
				t.Errorf("%v plus %v is %v", m, w, sum)
			}
		}
		if twice := m.times(integer.Of(2)); twice != m.plus(m) {
			t.Errorf("twice %v is %v", m, twice)
		}
	}
}

func compare(k, j int) int {
	switch {
	case k < j:
		return -1
	case k > j:
		return 1
	}
	return 0
}

func TestEase(t *testing.T) {
	l := api.LP{
		Cols: []api.Col{{Cost: "1", Low: "0", Up: "2"}, {Cost: "1", Low: "1", Up: "1"}, {Cost: "1"}},
		Rows: []api.Row{
			{Kind: api.RLess, Rhs: "5", Coef: []api.Coef{{Col: 0, V: "1"}}},
			{Kind: api.RMore, Rhs: "-5", Coef: []api.Coef{{Col: 0, V: "1"}}},
			{Kind: api.REqual, Rhs: "1", Coef: []api.Coef{{Col: 1, V: "1"}}},
		},
	}
	hairs := func(c *Corner) (signs []int) {
		for _, m := range c.limits {
			for _, end := range []*measure{m.low, m.up} {
				if end == nil {
					signs = append(signs, 7)
				} else {
					signs = append(signs, end.hairs.Sign())
				}
			}
		}
		return signs
	}
	c := start(read(l))
	for k, want := range [][]int{{0, 0, 0, 0, 7, 7, 7, 1, -1, 7, 0, 0}, {-1, 1, 0, 0, 7, 7, 7, 1, -1, 7, 0, 0}} {
		if !c.ease() || c.ease() || !slices.Equal(hairs(c), want) {
			t.Errorf("%d: the hairs are %v, not %v", k, hairs(c), want)
		}
		// Then the first column is not held any more.
		c.hold(0, 3)
	}
}

// Each limit has hairs of its own, even two by two.
func TestScattered(t *testing.T) {
	seen := map[int64]int{}
	for k := range api.MaxWide + api.MaxTall {
		if n := scattered(k); n <= 0 {
			t.Errorf("of %d there are %d hairs", k, n)
		}
		for j := range k {
			seen[scattered(k)+scattered(j)]++
			seen[-abs(scattered(k)-scattered(j))]++
		}
	}
	for n, often := range seen {
		if n == 0 || often > 6 {
			t.Errorf("%d pairs come to %d hairs", often, n)
		}
	}
}

func abs(n int64) int64 { return max(n, -n) }

// byBland goes all the way by Bland's rule, without hairs; -1: it does not end.
func byBland(c *Corner) (status int, prices []*frac.Frac) {
	for range 20_000 {
		c.idle = patience + 1
		fits, aim := c.aim()
		prices := c.basis.Solve(fractions(aim))
		place := c.choose(prices)
		switch {
		case place < 0 && fits:
			return api.SOptimal, prices
		case place < 0:
			return api.SInfeasible, prices
		}
		way := c.away(place, -prices[place].Sign())
		s, ok := c.halt(way, fits)
		if !ok {
			return api.SUnbounded, nil
		}
		c.move(way, s)
		if s.limit != c.held[place] {
			c.hold(place, s.limit)
		}
	}
	return -1, nil
}

// dice throws numbers that are the same in every run.
type dice uint64

func (d *dice) below(n int) int {
	*d = *d*6364136223846793005 + 1442695040888963407
	return int(*d>>33) % n
}

// cone has rows that all meet in 0.
func cone(d *dice, cols, rows, size int) api.LP {
	var l api.LP
	for range cols {
		l.Cols = append(l.Cols, api.Col{Cost: strconv.Itoa(d.below(2*size+1) - size), Low: "0", Up: "10"})
	}
	for range rows {
		r := api.Row{Kind: 1 + d.below(3), Rhs: "0"}
		if d.below(9) == 0 {
			r.Rhs = "1"
		}
		for j := range cols {
			if v := d.below(2*size+1) - size; v != 0 {
				r.Coef = append(r.Coef, api.Coef{Col: j, V: strconv.Itoa(v)})
			}
		}
		l.Rows = append(l.Rows, r)
	}
	return l
}

func TestBland(t *testing.T) {
	d := dice(17)
	var seen [4]int
	for range 400 {
		l := cone(&d, 2+d.below(9), 1+d.below(12), 1+d.below(4))
		if d.below(4) == 0 {
			l.Cols[0].Up = ""
		}
		want := Start(l).Solve()
		c := start(read(l))
		status, prices := byBland(c)
		if status != want.Status {
			t.Fatalf("by Bland's rule Status is %d, not %d", status, want.Status)
		}
		seen[status]++
		switch status {
		case api.SOptimal:
			if a := c.optimal(prices); a.Value != want.Value {
				t.Errorf("by Bland's rule Value is %s, not %s", a.Value, want.Value)
			}
		case api.SInfeasible:
			b, ok := prob.Bound(l, multiple(c.against(prices)), false)
			if f, _ := frac.Get(b); !ok || f.Sign() <= 0 {
				t.Errorf("by Bland's rule Bound is %s", b)
			}
		}
	}
	if seen[1] < 20 || seen[2] < 20 {
		t.Errorf("the Statuses are %v", seen)
	}
}

// All columns are held at a low, else an up, else 0, and the rows are where that
// leads to.
func TestStart(t *testing.T) {
	l := api.LP{Cols: []api.Col{{Cost: "1", Low: "-1/2"}, {Cost: "1", Up: "2/3"}, {Cost: "1", Low: "3", Up: "4"}, {Cost: "1"}}, Rows: []api.Row{{Kind: api.RLess, Rhs: "0"}}}
	for k := range l.Cols {
		l.Rows[0].Coef = append(l.Rows[0].Coef, api.Coef{Col: k, V: strconv.Itoa(k + 1)})
	}
	c := start(read(l))
	if x := texts(c.point()); !slices.Equal(x, []string{"-1/2", "2/3", "3", "0"}) {
		t.Errorf("the start is %v", x)
	}
	if sum, _ := c.at[4].n.By(c.over); sum.Text() != "59/6" || !slices.Equal(c.held, []int{0, 1, 2, 3}) {
		t.Errorf("the row is at %s, and held are %v", sum.Text(), c.held)
	}
}

// Idle steps are counted, but from the last one that was none.
func TestIdle(t *testing.T) {
	l := api.LP{Cols: []api.Col{{Cost: "-1", Low: "0", Up: "5"}}}
	c := start(read(l))
	way := c.away(0, 1)
	for _, x := range []struct {
		gap  int64
		idle int
	}{{0, 1}, {0, 2}, {1, 0}, {0, 1}} {
		c.move(way, stop{0, measure{n: integer.Of(x.gap)}, integer.Of(1)})
		if c.idle != x.idle {
			t.Errorf("there are %d idle steps, not %d", c.idle, x.idle)
		}
	}
	c.move(way, stop{0, measure{hairs: integer.Of(1)}, integer.Of(1)})
	if c.idle != 0 || c.at[0] != (measure{integer.Of(1), integer.Of(1)}) {
		t.Errorf("by a hair %d idle steps lead to %v", c.idle, c.at[0])
	}
}

// Of more that may be left Bland's rule takes the first, not the dearest, and so
// it does where more stops come together.
func TestFirst(t *testing.T) {
	l := api.LP{}
	for k := range 4 {
		l.Cols = append(l.Cols, api.Col{Cost: strconv.Itoa(-1 - k), Low: "0"})
		l.Rows = append(l.Rows, api.Row{Kind: api.RLess, Rhs: "0", Coef: []api.Coef{{Col: k, V: "1"}, {Col: 3, V: "1"}}})
	}
	l.Rows[3].Coef = l.Rows[3].Coef[1:]
	c := start(read(l))
	prices := c.basis.Solve(fractions(c.costs))
	for _, x := range []struct{ idle, place, limit int }{{0, 3, 4}, {patience, 3, 4}, {patience + 1, 0, 4}} {
		c.idle = x.idle
		if place := c.choose(prices); place != x.place {
			t.Errorf("behind %d idle steps place %d is left, not %d", x.idle, place, x.place)
		}
		if s, ok := c.halt(c.away(3, 1), true); !ok || s.limit != x.limit || s.gap.sign() != 0 {
			t.Errorf("behind %d idle steps the way halts at %d", x.idle, s.limit)
		}
	}
}

// The first limit need not be held in the first place.
func TestFirstInAnyPlace(t *testing.T) {
	l := api.LP{
		Cols: []api.Col{{Cost: "5", Low: "0"}, {Cost: "4", Low: "0"}},
		Rows: []api.Row{{Kind: api.RLess, Rhs: "0", Coef: []api.Coef{{Col: 0, V: "1"}, {Col: 1, V: "1"}}}},
	}
	c := start(read(l))
	c.hold(0, 2)
	prices := c.basis.Solve(fractions(c.costs))
	for idle, place := range map[int]int{0: 0, patience: 0, patience + 1: 1} {
		c.idle = idle
		if got := c.choose(prices); got != place {
			t.Errorf("behind %d idle steps place %d is left, not %d", idle, got, place)
		}
	}
}

// Where limits are not kept a way may pass stops, but not by Bland's rule.
func TestPassing(t *testing.T) {
	l := api.LP{Cols: []api.Col{{Cost: "1", Low: "0"}}}
	for _, r := range []struct {
		kind int
		rhs  string
	}{{api.RMore, "1"}, {api.RMore, "2"}, {api.RLess, "3"}, {api.RMore, "4"}, {api.RMore, "5"}} {
		l.Rows = append(l.Rows, api.Row{Kind: r.kind, Rhs: r.rhs, Coef: []api.Coef{{Col: 0, V: "1"}}})
	}
	c := start(read(l))
	for _, x := range []struct{ idle, limit int }{{0, 4}, {patience + 1, 1}} {
		c.idle = x.idle
		if s, ok := c.halt(c.away(0, 1), false); !ok || s.limit != x.limit {
			t.Errorf("behind %d idle steps the way halts at %d, not %d", x.idle, s.limit, x.limit)
		}
	}
}
