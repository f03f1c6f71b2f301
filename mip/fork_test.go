package mip

import (
	"strings"
	"testing"

	"victualler/api"
	"victualler/dual"
	"victualler/frac"
)

func get(s string) *frac.Frac {
	x, ok := frac.Get(s)
	if !ok {
		panic("no number: " + s)
	}
	return x
}

func TestFar(t *testing.T) {
	for x, want := range map[string]string{"0": "0", "7": "0", "-7": "0", "1/2": "1/2", "-1/2": "1/2", "7/3": "1/3", "8/3": "1/3", "-7/3": "1/3", "-8/3": "1/3", "1/9": "1/9", "-1/9": "1/9"} {
		if got := far(get(x)).Text(); got != want {
			t.Errorf("from %s it is %s to the nearest whole number, not %s", x, got, want)
		}
	}
}

// of is a part of that value; "": nothing fits in it.
func of(value string) part {
	if value == "" {
		return part{}
	}
	return part{fits: true, value: get(value)}
}

// The forks stand by how much they lead on.
func TestWorth(t *testing.T) {
	found := of("9")
	s := &search{best: &found}
	p := of("1")
	var last worth
	for k, x := range [][2]string{{"1", "1"}, {"1", "3"}, {"8", "1"}, {"2", "2"}, {"5/2", "2"}, {"2", "4"}, {"3", "3"}, {"", "1"}, {"2", ""}, {"10", "3"}, {"", ""}} {
		w := s.worth(p, fork{left: of(x[0]), right: of(x[1])})
		turned := s.worth(p, fork{left: of(x[1]), right: of(x[0])})
		if w.compare(turned) != 0 {
			t.Errorf("%q is worth more than turned round", x)
		}
		if k > 0 && (w.compare(last) <= 0 || last.compare(w) >= 0) {
			t.Errorf("%q is not worth more than what stands ahead", x)
		}
		last = w
	}
	if w := s.worth(p, fork{left: of("9"), right: of("")}); w.closed != 2 || w.compare(last) != 0 {
		t.Errorf("of two closed parts %d count as such", w.closed)
	}
}

func TestLikelier(t *testing.T) {
	found := of("9")
	s := &search{best: &found}
	for _, x := range []struct {
		p, than string
		want    bool
	}{{"1", "2", true}, {"2", "1", false}, {"1", "1", false}, {"1", "", true}, {"", "1", false}, {"", "", false}, {"1", "10", true}, {"10", "1", false}, {"10", "11", false}} {
		if s.likelier(of(x.p), of(x.than)) != x.want {
			t.Errorf("%q is likelier than %q: %v", x.p, x.than, !x.want)
		}
	}
}

// begun is a search with the part that is all of a program.
func begun(l api.LP) (*search, part) {
	state, a, _ := dual.New(l)
	return start(l.Cols, false, 0), solved(state, a)
}

// Of the columns that are far from whole the one whose parts cost most is taken, be
// it the last.
func TestChoose(t *testing.T) {
	col := func(cost string) api.Col { return api.Col{Cost: cost, Low: "1/2", Up: "7/2", Int: true} }
	for _, costs := range []string{"1 2 3", "3 2 1", "1 3 2", "2 3", "1 1 9"} {
		var l api.LP
		most := 0
		for k, cost := range strings.Fields(costs) {
			l.Cols = append(l.Cols, col(cost))
			if cost > l.Cols[most].Cost {
				most = k
			}
		}
		s, p := begun(l)
		if f := s.fork(p); f.col != most || f.at.Text() != "0" || f.left.fits || f.right.x[most].Text() != "1" {
			t.Errorf("of costs %s column %d is taken at %s", costs, f.col, f.at.Text())
		}
	}
	// The nearest to whole are not tried.
	var l api.LP
	for _, low := range []string{"1/9", "1/2", "10/9", "1/3", "2/3"} {
		c := col("1")
		if c.Low = low; strings.HasSuffix(low, "9") {
			c.Cost = "100"
		}
		l.Cols = append(l.Cols, c)
	}
	s, p := begun(l)
	if f := s.fork(p); f.col != 3 {
		t.Errorf("column %d is taken", f.col)
	}
}

// What is closed is halved: so a wide column needs few nodes.
func TestHalve(t *testing.T) {
	for _, x := range []struct{ low, up, at string }{{"0", "1000", "500"}, {"0", "1", "0"}, {"-3", "-2", "-3"}, {"-7", "9", "1"}, {"1/3", "2/3", "0"}, {"-1/2", "1/2", "0"}, {"-1/2", "0", "-1"}} {
		s, p := begun(api.LP{Cols: []api.Col{{Cost: "1", Low: "2", Up: "2", Int: true}, {Cost: "0", Low: "0", Up: "9"}, {Cost: "1", Low: x.low, Up: x.up, Int: true}}})
		s.best = &p
		if f := s.fork(p); f.col != 2 || f.at.Text() != x.at {
			t.Errorf("%s to %s is parted at %s of column %d", x.low, x.up, f.at.Text(), f.col)
		}
	}
}
