package linear_test

import (
	"testing"

	"victualler/api"
	"victualler/frac"
	"victualler/linear"
)

// A part is its own: what it is part of stays as it was.
func TestParts(t *testing.T) {
	l := api.LP{Cols: []api.Col{{Cost: "1", Low: "0", Up: "9", Int: true}, {Cost: "-1", Low: "0", Up: "9"}}}
	p, ok := linear.Read(l)
	if !ok {
		t.Fatal("Read does not take a program")
	}
	least := func(p linear.Program) string {
		b, _ := p.Bound(nil, true)
		return b.Text()
	}
	up, from := p.UpTo(1, frac.Of(5)), p.From(0, frac.Of(3))
	both := up.From(0, frac.Of(4)).UpTo(1, frac.Of(2))
	crossed := both.UpTo(0, frac.Of(3))
	for k, x := range []struct {
		p       linear.Program
		least   string
		crosses bool
	}{
		{p, "-9", false}, {up, "-5", false}, {from, "-6", false}, {both, "2", false}, {crossed, "2", true},
		{up.UpTo(1, frac.Of(7)), "-5", false}, {from.From(0, frac.Of(2)), "-6", false}, {p.From(0, frac.Of(9)), "0", false}, {p.UpTo(0, frac.Of(-1)), "-9", true},
	} {
		if got := least(x.p); got != x.least || x.p.Crosses() != x.crosses {
			t.Errorf("part %d is worth %s, crosses: %v", k, got, x.p.Crosses())
		}
	}
	for k, want := range map[int]bool{-1: false, 0: true, 1: false, 2: false} {
		if p.HasWhole(k) != want {
			t.Errorf("HasWhole(%d) is %v", k, !want)
		}
	}
}
