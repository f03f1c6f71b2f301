package tree

import (
	"slices"

	"victualler/api"
	"victualler/frac"
)

// The kinds of split.Place.
const (
	aSide = 1 + iota
	aCost
	aTech
	aCoef
)

// scens makes so many scenarios of two, all that there are.
func (all spots) scens(two api.Two, groups []api.Group, count int) []api.Scen {
	var ss []api.Scen
	for k := range count {
		ss = append(ss, all.scen(two, picked(groups, k)))
	}
	return ss
}

// picked are the cases of the k-th scenario, one of each group.
func picked(groups []api.Group, k int) []api.Case {
	cases := make([]api.Case, len(groups))
	for at, g := range slices.Backward(groups) {
		cases[at] = g.Cases[k%len(g.Cases)]
		k /= len(g.Cases)
	}
	return cases
}

func (all spots) scen(two api.Two, cases []api.Case) api.Scen {
	s, p := plain(two), frac.Of(1)
	for _, c := range cases {
		share, _ := frac.Get(c.P)
		p = p.Mul(share)
		for _, e := range c.Es {
			all[e.At].lay(&s, e.V)
		}
	}
	s.P = p.Text()
	return s
}

// plain is the second stage without any entry, in memory of its own.
func plain(two api.Two) api.Scen {
	var s api.Scen
	s.Second.Cols = slices.Clone(two.Second.Cols)
	for _, row := range two.Second.Rows {
		row.Coef = slices.Clone(row.Coef)
		s.Second.Rows = append(s.Second.Rows, row)
	}
	for _, cs := range two.Tech {
		s.Tech = append(s.Tech, slices.Clone(cs))
	}
	return s
}

// lay gives a scenario the number that an entry has here.
func (at spot) lay(s *api.Scen, v string) {
	switch at.kind {
	case aSide:
		s.Second.Rows[at.row].Rhs = v
	case aCost:
		s.Second.Cols[at.col].Cost = v
	case aTech:
		s.Tech[at.row] = with(s.Tech[at.row], at.col, v)
	case aCoef:
		row := &s.Second.Rows[at.row]
		row.Coef = with(row.Coef, at.col, v)
	}
}

// with changes cs, which is by rising columns and stays so.
func with(cs []api.Coef, col int, v string) []api.Coef {
	at, there := slices.BinarySearchFunc(cs, col, func(x api.Coef, col int) int { return x.Col - col })
	if there {
		cs = slices.Delete(cs, at, at+1)
	}
	// Of a fraction in lowest terms this is the one text of 0.
	if v == "0" {
		return cs
	}
	return slices.Insert(cs, at, api.Coef{Col: col, V: v})
}
