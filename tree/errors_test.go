package tree_test

import (
	"fmt"
	"math"
	"slices"
	"strings"
	"testing"

	"victualler/api"
)

// given is what Of is given.
type given struct {
	c    api.Core
	ps   []api.Period
	s    api.Stoch
	most int
}

// rich has three blocks, of which the cases have entries of all kinds; 12 scenarios.
func rich() given {
	return given{good(), halves(), blocks(
		block("a", one("1/2", entry("", "need", "1"), entry("y", "cost", "2")), one("1/2", entry("a", "need", "3"))),
		block("b", one("1/3", entry("", "own", "4")), one("1/3", entry("x", "own", "5"), entry("b", "own", "6")), one("1/3")),
		block("c", one("1/4", entry("", "bare", "7"), entry("z", "bare", "8")), one("3/4", entry("", "bare", "9"))),
	), 12}
}

// fault makes something wrong.
type fault struct {
	what string
	turn func(g *given)
	want api.Errno
}

// faults are in the order in which they count.
func faults() []fault {
	// add adds entries to a case, in front of all that it has.
	add := func(group, at int, es ...api.Entry) func(*given) {
		return func(g *given) {
			x := &g.s.Groups[group].Cases[at]
			x.Es = slices.Concat(es, x.Es)
		}
	}
	return []fault{
		{"no name", func(g *given) { g.c.Name = "" }, api.ErrName},
		{"a wrong Kind of a row", func(g *given) { g.c.Rows[4].Kind = 0 }, api.ErrKind},
		{"a text that is no number", func(g *given) { g.c.Rows[2].Rhs = "1.5" }, api.ErrForm},
		{"one period", func(g *given) { g.ps = g.ps[:1] }, api.ErrForm},
		{"periods of one name", func(g *given) { g.ps[1].Name = "now" }, api.ErrName},
		{"a first column without Up", func(g *given) { g.c.Cols[1].Up = "" }, api.ErrBound},
		{"21 rows behind", func(g *given) {
			for k := range 17 {
				g.c.Rows = append(g.c.Rows, api.Row{Name: fmt.Sprint("r", k), Kind: api.RLess, Rhs: "0"})
			}
		}, api.ErrLimit},
		{"no Kind", func(g *given) { g.s.Kind = 4 }, api.ErrKind},
		{"a wrong number", func(g *given) { g.s.Groups[2].Cases[0].Es[0].V = "2/4" }, api.ErrForm},
		{"a sum that is not 1", func(g *given) { g.s.Groups[1].Cases[2].P = "1/4" }, api.ErrProb},
		{"41 entries", func(g *given) {
			for k := range 41 {
				g.s.Groups[2].Cases[1].Es = append(g.s.Groups[2].Cases[1].Es, entry("q", fmt.Sprint("q", k), "1"))
			}
		}, api.ErrLimit},
		{"a cost of the first stage", add(0, 0, entry("b", "cost", "1")), api.ErrOrder},
		{"a row that is not there", add(0, 1, entry("x", "q", "1")), api.ErrName},
		{"a right side of Obj", add(1, 1, entry("", "cost", "1")), api.ErrKind},
		{"a row of the first stage", add(1, 2, entry("", "cap", "1")), api.ErrOrder},
		{"a column that is not there", add(2, 0, entry("Q", "need", "1")), api.ErrName},
		{"a row with a Range", func(g *given) {
			g.c.Rows[2].Range = "1"
			add(2, 1, entry("z", "link", "1"))(g)
		}, api.ErrKind},
		{"two groups of one place", add(2, 1, entry("a", "need", "1")), api.ErrName},
		{"few scenarios", func(g *given) { g.most = 11 }, api.ErrLimit},
	}
}

// Of any faults at once the first one's error counts.
func TestOfWithAllFaults(t *testing.T) {
	all := faults()
	for bits := 1; bits < 1<<len(all); bits++ {
		// Of the errors ahead of the entries' own, three at once will do.
		if ahead := bits & (1<<11 - 1); ones(ahead) > 3 {
			continue
		}
		g, what, want := rich(), "", api.OK
		for k, f := range slices.Backward(all) {
			if bits>>k&1 == 1 {
				f.turn(&g)
				what, want = f.what+", "+what, f.want
			}
		}
		refuses(t, what, g.c, g.ps, g.s, g.most, want)
	}
}

func ones(bits int) int { return strings.Count(fmt.Sprintf("%b", bits), "1") }

func TestOfWithoutFaults(t *testing.T) {
	g := rich()
	grows(t, "three blocks", g.c, g.ps, g.s, g.most, askedScens(g.c, g.ps, g.s.Groups)...)
}

// wrong are places that are nowhere in the second stage.
func wrong() map[api.Place]api.Errno {
	return map[api.Place]api.Errno{
		{Col: "a", Row: "cost"}: api.ErrOrder, {Col: "b", Row: "cap"}: api.ErrOrder, {Col: "x", Row: "cap"}: api.ErrOrder, {Row: "cap"}: api.ErrOrder,
		{Row: "cost"}: api.ErrKind, {Row: "link"}: api.ErrKind, {Col: "a", Row: "link"}: api.ErrKind, {Col: "z", Row: "link"}: api.ErrKind,
		{Row: "q"}: api.ErrName, {Col: "q", Row: "need"}: api.ErrName, {Col: "q", Row: "cost"}: api.ErrName, {Col: "need", Row: "need"}: api.ErrName, {Col: "x", Row: "x"}: api.ErrName, {Col: "q", Row: "cap"}: api.ErrName, {Col: "X", Row: "need"}: api.ErrName,
	}
}

// Each wrong place's error is Of's, of each Kind of Stoch, in whatever case.
func TestOfEachWrongPlace(t *testing.T) {
	c := good()
	c.Rows[2].Range = "-1"
	for at, want := range wrong() {
		bad := api.Entry{At: at, V: "1"}
		what := fmt.Sprintf("%q", at)
		refuses(t, what, c, halves(), indep(map[int][]string{0: {"1"}}, at), 0, want)
		refuses(t, what, c, halves(), indep(map[int][]string{0: {"1", "2"}, 1: {"3"}}, api.Place{Row: "need"}, at), 1, want)
		refuses(t, what, c, halves(), scenarios(one("1/2", entry("", "need", "1")), one("1/2", entry("", "need", "1"), entry("", "own", "1"), bad)), 1, want)
		for at := range 7 {
			g := rich()
			g.c.Rows[2].Range = "-1"
			place := [][2]int{{0, 0}, {0, 1}, {1, 0}, {1, 1}, {1, 2}, {2, 0}, {2, 1}}[at]
			x := &g.s.Groups[place[0]].Cases[place[1]]
			for k := range len(x.Es) + 1 {
				es := x.Es
				x.Es = slices.Insert(slices.Clone(es), k, bad)
				refuses(t, fmt.Sprint(what, at, k), g.c, g.ps, g.s, g.most, want)
				x.Es = es
			}
		}
	}
}

// Of two wrong places the one counts that comes first: by groups, by cases, by
// entries.
func TestOfFirstWrongPlace(t *testing.T) {
	bad := []api.Entry{entry("q", "q", "1"), entry("a", "cap", "1"), entry("", "cost", "1")}
	wants := []api.Errno{api.ErrName, api.ErrOrder, api.ErrKind}
	var spots [][3]int
	for group := range 3 {
		for at := range 3 {
			spots = append(spots, [3]int{group, at, 0}, [3]int{group, at, 1}, [3]int{group, at, 2})
		}
	}
	for i, first := range spots {
		for _, next := range spots[i+1:] {
			for k := range 9 {
				a, b := k/3, k%3
				if a == b {
					continue
				}
				s := api.Stoch{Kind: api.KBlock}
				for group := range 3 {
					var cases []api.Case
					for at := range 3 {
						cases = append(cases, one("1/3", entry("", "need", "1"), entry("", "own", "2"), entry("", "link", "3")))
						if group > 0 {
							cases[at].Es = []api.Entry{entry("xyz"[group:group+1], "need", "1"), entry("xyz"[group:group+1], "own", "2"), entry("xyz"[group:group+1], "link", "3")}
						}
					}
					s.Groups = append(s.Groups, block(fmt.Sprint(group), cases...))
				}
				s.Groups[first[0]].Cases[first[1]].Es[first[2]] = bad[a]
				s.Groups[next[0]].Cases[next[1]].Es[next[2]] = bad[b]
				refuses(t, fmt.Sprint(first, next, k), good(), halves(), s, 64, wants[a])
			}
		}
	}
}

// A place is one group's; the cases of that group share it.
func TestOfSharedPlaces(t *testing.T) {
	places := []api.Place{{Row: "need"}, {Col: "y", Row: "cost"}, {Col: "b", Row: "own"}, {Col: "z", Row: "bare"}}
	for _, at := range places {
		e := api.Entry{At: at, V: "0"}
		for first := range 3 {
			for next := first + 1; next < 3; next++ {
				for k := range 8 {
					var groups []api.Group
					for i := range 3 {
						groups = append(groups, block(fmt.Sprint(i), one("1/3"), one("2/3", entry("xyz"[i:i+1], "link", "1"))))
					}
					a, b := &groups[first].Cases[k%2], &groups[next].Cases[k/2%2]
					a.Es = append(a.Es, e)
					b.Es = append([]api.Entry{e}, b.Es...)
					if k/4 == 0 {
						// Another number, the same place.
						b.Es[0].V = "99"
					}
					refuses(t, fmt.Sprint("two blocks of ", at, first, next, k), good(), halves(), blocks(groups...), 64, api.ErrName)
					refuses(t, fmt.Sprint("two blocks of ", at, first, next, k), good(), halves(), blocks(groups...), 1, api.ErrName)
					b.Es = b.Es[1:]
					a.Es = append(a.Es, entry("a", "bare", "1"))
					groups[first].Cases[1-k%2].Es = append(groups[first].Cases[1-k%2].Es, e)
					grows(t, fmt.Sprint("a block of ", at, first, next, k), good(), halves(), blocks(groups...), 8, askedScens(good(), halves(), groups)...)
				}
			}
		}
		// In one row, in one column, but not of one place.
		for _, other := range places {
			if other != at {
				groups := []api.Group{block("a", one("1", e)), block("b", one("1", api.Entry{At: other, V: "5"}))}
				grows(t, fmt.Sprint(at, other), good(), halves(), blocks(groups...), 1, askedScens(good(), halves(), groups)...)
			}
		}
	}
	near := []api.Group{block("a", one("1", entry("x", "need", "5"))), block("b", one("1", entry("", "need", "6"))), block("c", one("1", entry("x", "cost", "7"))), block("d", one("1", entry("x", "own", "8"))), block("e", one("1", entry("a", "need", "9")))}
	grows(t, "places nearby", good(), halves(), blocks(near...), 1, askedScens(good(), halves(), near)...)
	refuses(t, "two places", good(), halves(), indep(map[int][]string{0: {"1"}, 1: {"2"}}, places[0], places[0]), 0, api.ErrForm)
}

// Of says ErrLimit just where Count says no.
func TestOfMost(t *testing.T) {
	vs := func(n int) []string {
		var all []string
		for k := range n {
			all = append(all, fmt.Sprint(k))
		}
		return all
	}
	for _, ns := range [][]int{{1, 1, 1}, {2, 1, 1}, {1, 1, 2}, {3, 7, 3}, {4, 4, 4}, {8, 8, 1}, {1, 64, 1}, {64, 1, 1}, {13, 5, 1}, {1, 64, 2}, {64, 64, 64}, {9, 7, 1}, {2, 4, 4}, {2, 3, 11}} {
		s := indep(map[int][]string{0: vs(ns[0]), 1: vs(ns[1]), 2: vs(ns[2])}, api.Place{Row: "need"}, api.Place{Row: "own"}, api.Place{Col: "x", Row: "cost"})
		all := ns[0] * ns[1] * ns[2]
		var want []api.Scen
		if all <= 64 {
			want = askedScens(good(), halves(), s.Groups)
		}
		for _, most := range mosts {
			if all > mostOf(most) {
				refuses(t, fmt.Sprint(ns, most), good(), halves(), s, most, api.ErrLimit)
				counts(t, fmt.Sprint(ns), s, most, -1)
			} else {
				grows(t, fmt.Sprint(ns, most), good(), halves(), s, most, want...)
				counts(t, fmt.Sprint(ns), s, most, all)
			}
		}
	}
}

// Each error of stoch.May is Of's, too.
func TestOfWhatMayNotBe(t *testing.T) {
	e := entry("", "need", "1")
	long := strings.Repeat("9", 2001)
	for k, x := range []struct {
		s    api.Stoch
		want api.Errno
	}{
		{api.Stoch{}, api.ErrKind}, {api.Stoch{Kind: -1}, api.ErrKind}, {api.Stoch{Kind: math.MinInt}, api.ErrKind}, {api.Stoch{Kind: math.MaxInt}, api.ErrKind},
		{api.Stoch{Kind: api.KScen}, api.ErrForm}, {api.Stoch{Kind: api.KScen, Groups: []api.Group{block("root", one("1"))}}, api.ErrForm}, {api.Stoch{Kind: api.KScen, Groups: []api.Group{block("ROOT", one("1")), block("ROOT", one("1"))}}, api.ErrForm}, {scenarios(), api.ErrProb},
		{blocks(block("", one("1"))), api.ErrForm}, {blocks(block("a b", one("1"))), api.ErrForm}, {blocks(block("a")), api.ErrForm}, {blocks(block("a", one("1")), block("a", one("1"))), api.ErrForm},
		{blocks(block("a", one("0"))), api.ErrForm}, {blocks(block("a", one(""))), api.ErrForm}, {blocks(block("a", one("1.0"))), api.ErrForm}, {blocks(block("a", one("-1"), one("2"))), api.ErrForm}, {blocks(block("a", one("1/2"))), api.ErrProb}, {blocks(block("a", one("1"), one("1/"+long[:2000]))), api.ErrProb},
		{blocks(block("a", one("1", e, e))), api.ErrForm}, {blocks(block("a", one("1", entry("RHS", "need", "1")))), api.ErrForm}, {blocks(block("a", one("1", entry("", "", "1")))), api.ErrForm}, {blocks(block("a", one("1", entry("", "need", "")))), api.ErrForm}, {blocks(block("a", one("1", entry("", "need", "00")))), api.ErrForm}, {blocks(block("a", one("1", entry("", "need", long)))), api.ErrForm}, {blocks(block("a", one("1", entry("\x00", "need", "1")))), api.ErrForm},
		{api.Stoch{Kind: api.KIndep, Groups: []api.Group{block("a", one("1", e))}}, api.ErrForm}, {api.Stoch{Kind: api.KIndep, Groups: []api.Group{block("", one("1"))}}, api.ErrForm}, {api.Stoch{Kind: api.KIndep, Groups: []api.Group{block("")}}, api.ErrForm}, {api.Stoch{Kind: api.KIndep, Groups: []api.Group{block("", one("1/2", e), one("1/2", entry("", "own", "1")))}}, api.ErrForm},
	} {
		for _, most := range []int{0, 1, 64} {
			refuses(t, fmt.Sprint("Stoch ", k), good(), halves(), x.s, most, x.want)
		}
		refuses(t, fmt.Sprint("Stoch ", k, " of no core"), api.Core{}, nil, x.s, 1, api.ErrName)
	}
	many := make([]api.Case, 65)
	for k := range many {
		many[k].P = "1/65"
	}
	refuses(t, "65 cases", good(), halves(), blocks(block("a", many...)), 0, api.ErrLimit)
	many[64].Es = []api.Entry{entry("q", "q", "1")}
	refuses(t, "65 cases, of which one has a wrong place", good(), halves(), blocks(block("a", many...)), 0, api.ErrLimit)
	refuses(t, "nothing", api.Core{}, nil, api.Stoch{}, 0, api.ErrName)
	refuses(t, "no periods", good(), nil, api.Stoch{}, 0, api.ErrForm)
}
