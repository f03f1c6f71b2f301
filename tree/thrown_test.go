package tree_test

import (
	"fmt"
	"math/big"
	"slices"
	"strings"
	"testing"

	"victualler/api"
	"victualler/split"
	"victualler/stoch"
)

// dice throws numbers that are the same in every run.
type dice uint64

func (d *dice) below(n int) int {
	*d = *d*6364136223846793005 + 1442695040888963407
	return int(*d>>33) % n
}

func (d *dice) of(texts ...string) string { return texts[d.below(len(texts))] }

// number throws small ones, most of them whole.
func (d *dice) number() string {
	return big.NewRat(int64(d.below(9)-4), int64(1+d.below(3)/2)).RatString()
}

// rarely is true of one throw of so many.
func (d *dice) rarely(n int) bool { return d.below(n) == 0 }

// core throws one, and where its second stage begins.
func (d *dice) core() (api.Core, []api.Period) {
	cols, rows := 2+d.below(5), 1+d.below(5)
	col, row := 1+d.below(cols-1), d.below(rows)
	c := api.Core{Name: "T", Obj: "cost"}
	for k := range cols {
		x := api.Col{Name: fmt.Sprint("x", k), Low: d.of("0", "-1"), Up: d.of("5", "9/2"), Cost: d.number(), Int: k < col && d.rarely(3)}
		if k >= col && d.rarely(3) || d.rarely(200) {
			x.Up = ""
		}
		c.Cols = append(c.Cols, x)
	}
	for k := range rows {
		r := api.Row{Name: fmt.Sprint("r", k), Kind: 1 + d.below(3), Rhs: d.number()}
		if d.rarely(8) {
			r.Range = d.number()
		}
		for i := range cols {
			if v := d.number(); (k >= row || i < col) && v != "0" && d.rarely(2) {
				r.Coef = append(r.Coef, api.Coef{Col: i, V: v})
			}
		}
		c.Rows = append(c.Rows, r)
	}
	return c, []api.Period{{Col: "x0", Row: d.of("cost", "r0"), Name: "now"}, {Col: fmt.Sprint("x", col), Row: fmt.Sprint("r", row), Name: "then"}}
}

// places are all of a core, thrown about: those that may be ahead, but for a few
// of the others.
func (d *dice) places(c api.Core, ps []api.Period) []api.Place {
	var all []api.Place
	for _, row := range slices.Concat(c.Rows, []api.Row{{Name: "cost"}, {Name: "q"}}) {
		for _, col := range slices.Concat(c.Cols, []api.Col{{}, {Name: "q"}}) {
			at := api.Place{Col: col.Name, Row: row.Name}
			if _, _, _, e := split.Place(c, ps, at); e == api.OK || d.rarely(100) {
				all = append(all, at)
			}
		}
	}
	for k := range all {
		i := k + d.below(len(all)-k)
		all[k], all[i] = all[i], all[k]
	}
	return all
}

// shares throws n probabilities, which come to 1 but now and then.
func (d *dice) shares(n int) []string {
	weights, all := make([]int64, n), int64(0)
	for k := range weights {
		weights[k] = int64(1 + d.below(4))
		all += weights[k]
	}
	if d.rarely(100) {
		all++
	}
	var ps []string
	for _, w := range weights {
		ps = append(ps, big.NewRat(w, all).RatString())
	}
	return ps
}

// stoch throws one whose entries are of these places.
func (d *dice) stoch(places []api.Place) api.Stoch {
	s := api.Stoch{Kind: 1 + d.below(3)}
	for k := range []int{d.below(6), d.below(6), 1}[s.Kind-1] {
		g := api.Group{Name: []string{"", fmt.Sprint("g", k), "ROOT"}[s.Kind-1]}
		var own []api.Place
		for range 1 + d.below(4) {
			if len(places) > 0 {
				own, places = append(own, places[0]), places[1:]
			}
		}
		// Now and then a place is left for the next group, too.
		if d.rarely(30) && len(own) > 0 {
			places = append([]api.Place{own[0]}, places...)
		}
		for _, p := range d.shares(1 + d.below(4)) {
			x := api.Case{P: p}
			for i, at := range own {
				if s.Kind != api.KIndep && d.rarely(2) || s.Kind == api.KIndep && i == 0 {
					x.Es = append(x.Es, api.Entry{At: at, V: d.number()})
				}
			}
			g.Cases = append(g.Cases, x)
		}
		s.Groups = append(s.Groups, g)
	}
	return s
}

// asked is the error that the chapter asks.
func asked(c api.Core, ps []api.Period, s api.Stoch, most int) api.Errno {
	if _, e := split.Of(c, ps); e != api.OK {
		return e
	}
	if e := stoch.May(s); e != api.OK {
		return e
	}
	count := 1
	groups := map[api.Place]map[int]int{}
	for k, g := range s.Groups {
		count = min(65, count*len(g.Cases))
		for _, x := range g.Cases {
			for _, e := range x.Es {
				if _, _, _, e := split.Place(c, ps, e.At); e != api.OK {
					return e
				}
				if groups[e.At] == nil {
					groups[e.At] = map[int]int{}
				}
				groups[e.At][k]++
			}
		}
	}
	for _, of := range groups {
		if len(of) > 1 {
			return api.ErrName
		}
	}
	if count > mostOf(most) {
		return api.ErrLimit
	}
	return api.OK
}

// answers holds all that Of answers.
func answers(t *testing.T, what string, c api.Core, ps []api.Period, s api.Stoch, most int) api.Errno {
	t.Helper()
	want := asked(c, ps, s, most)
	if want != api.OK {
		refuses(t, what, c, ps, s, most, want)
	} else {
		grows(t, what, c, ps, s, most, askedScens(c, ps, s.Groups)...)
	}
	return want
}

func TestOfThrown(t *testing.T) {
	d := dice(13)
	count := map[api.Errno]int{}
	kinds := map[int]int{}
	for range 12000 {
		c, ps := d.core()
		s := d.stoch(d.places(c, ps))
		most := []int{0, 64, 64, 12, 1 + d.below(64)}[d.below(5)]
		e := answers(t, fmt.Sprint(c, ps, s), c, ps, s, most)
		count[e]++
		if e == api.OK {
			kinds[s.Kind]++
		}
	}
	for _, e := range []api.Errno{api.OK, api.ErrName, api.ErrOrder, api.ErrKind, api.ErrBound, api.ErrProb, api.ErrLimit} {
		if count[e] < 50 {
			t.Errorf("the test is wrong: error %d comes %d times", e, count[e])
		}
	}
	for kind := api.KIndep; kind <= api.KScen; kind++ {
		if kinds[kind] < 1000 {
			t.Errorf("the test is wrong: kind %d comes %d times", kind, kinds[kind])
		}
	}
}

// Any words: both calls answer, and by the sentences.
func FuzzTree(f *testing.F) {
	for _, text := range []string{"x", "need", "", "1", "0", "-1", "9/2", "2/4", "cost", "RHS", "ROOT", "cap", "link", strings.Repeat("9", 2001)} {
		f.Add(text, text, text, text, text, 1, 0)
		f.Add("x", "need", text, "1", "a", 2, 1)
		f.Add("a", "own", "0", text, "ROOT", 3, 64)
		f.Add(text, "bare", "7", "1/2", "", 1, -1)
		f.Add("", text, "7", "1", text, 2, 65)
		f.Add(text, "cost", "1/3", "1", "b", 2, 2)
	}
	f.Fuzz(func(t *testing.T, col, row, v, p, name string, kind, most int) {
		c := good()
		c.Rows[2].Range = "1"
		e := entry(col, row, v)
		for _, s := range []api.Stoch{
			{Kind: kind, Groups: []api.Group{block(name, one(p, e))}},
			{Kind: kind, Groups: []api.Group{block(name, one(p, e), one(p, entry(col, row, "3")))}},
			{Kind: kind, Groups: []api.Group{block("g", one("1", entry("y", "need", v))), block(name, one(p, e), one(p))}},
			{Kind: kind, Groups: []api.Group{block(name, one(p, entry(row, col, v))), block("", one("1", e))}},
		} {
			answers(t, "any words", c, halves(), s, most)
			want := 1
			for _, g := range s.Groups {
				want *= len(g.Cases)
			}
			if want > mostOf(most) {
				want = -1
			}
			counts(t, "any words", s, most, want)
		}
	})
}
