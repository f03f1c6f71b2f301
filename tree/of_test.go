package tree_test

import (
	"fmt"
	"math/big"
	"reflect"
	"slices"
	"strings"
	"testing"

	"victualler/api"
	"victualler/split"
	"victualler/tree"
)

// good has the columns a, b ahead of x, y, z, and the row cap ahead of need, link,
// own, bare.
func good() api.Core {
	return api.Core{Name: "T", Obj: "cost", Rows: []api.Row{
		{Name: "cap", Kind: api.RLess, Coef: coefs(0, "1", 1, "2"), Rhs: "9"},
		{Name: "need", Kind: api.RMore, Coef: coefs(0, "3", 2, "4", 3, "5"), Rhs: "1"},
		{Name: "link", Kind: api.REqual, Coef: coefs(3, "1", 4, "-2"), Rhs: "-7/2"},
		{Name: "own", Kind: api.RLess, Coef: coefs(0, "-1", 1, "6"), Rhs: "8"},
		{Name: "bare", Kind: api.RMore, Rhs: "0"},
	}, Cols: []api.Col{
		{Name: "a", Low: "0", Up: "5", Cost: "1", Int: true},
		{Name: "b", Low: "-1", Up: "1", Cost: "2"},
		{Name: "x", Low: "0", Cost: "3"},
		{Name: "y", Cost: "4"},
		{Name: "z", Low: "-7/2", Up: "8", Cost: "-1/2"},
	}}
}

// goodSecond is good's second stage.
func goodSecond() api.Scen {
	return api.Scen{Second: api.LP{Cols: good().Cols[2:], Rows: []api.Row{
		{Name: "need", Kind: api.RMore, Coef: coefs(0, "4", 1, "5"), Rhs: "1"},
		{Name: "link", Kind: api.REqual, Coef: coefs(1, "1", 2, "-2"), Rhs: "-7/2"},
		{Name: "own", Kind: api.RLess, Rhs: "8"},
		{Name: "bare", Kind: api.RMore, Rhs: "0"},
	}}, Tech: [][]api.Coef{coefs(0, "3"), nil, coefs(0, "-1", 1, "6"), nil}}
}

// coefs are of pairs of a column and a text.
func coefs(pairs ...any) []api.Coef {
	var cs []api.Coef
	for pair := range slices.Chunk(pairs, 2) {
		cs = append(cs, api.Coef{Col: pair[0].(int), V: pair[1].(string)})
	}
	return cs
}

func halves() []api.Period {
	return []api.Period{{Col: "a", Row: "cost", Name: "now"}, {Col: "x", Row: "need", Name: "then"}}
}

func entry(col, row, v string) api.Entry {
	return api.Entry{At: api.Place{Col: col, Row: row}, V: v}
}

func one(p string, es ...api.Entry) api.Case { return api.Case{P: p, Es: es} }

func block(name string, cases ...api.Case) api.Group { return api.Group{Name: name, Cases: cases} }

func blocks(groups ...api.Group) api.Stoch { return api.Stoch{Kind: api.KBlock, Groups: groups} }

func scenarios(cases ...api.Case) api.Stoch {
	return api.Stoch{Kind: api.KScen, Groups: []api.Group{block("ROOT", cases...)}}
}

// indep has a group a place; its values have one probability.
func indep(places map[int][]string, at ...api.Place) api.Stoch {
	s := api.Stoch{Kind: api.KIndep}
	for k, where := range at {
		var g api.Group
		for _, v := range places[k] {
			g.Cases = append(g.Cases, one(big.NewRat(1, int64(len(places[k]))).RatString(), api.Entry{At: where, V: v}))
		}
		s.Groups = append(s.Groups, g)
	}
	return s
}

// second is good's with what is turned in it.
func second(p string, turn func(s *api.Scen)) api.Scen {
	s := goodSecond()
	s.P = p
	if turn != nil {
		turn(&s)
	}
	return s
}

// plain has nil for lists that are empty.
func plain(s api.Scen) api.Scen {
	rows := slices.Clone(s.Second.Rows)
	for k := range rows {
		rows[k].Coef = append([]api.Coef(nil), rows[k].Coef...)
	}
	var tech [][]api.Coef
	for _, cs := range s.Tech {
		tech = append(tech, append([]api.Coef(nil), cs...))
	}
	return api.Scen{P: s.P, Second: api.LP{Cols: append([]api.Col(nil), s.Second.Cols...), Rows: append([]api.Row(nil), rows...)}, Tech: tech}
}

// sameScen holds one scenario.
func sameScen(t *testing.T, what string, got, want api.Scen) {
	t.Helper()
	if !reflect.DeepEqual(plain(got), plain(want)) {
		t.Errorf("P13.1: Of of %.200s:\n%.2000v, not\n%.2000v", what, fmt.Sprint(got), fmt.Sprint(want))
	}
}

// grows holds all that Of answers of what may be.
func grows(t *testing.T, what string, c api.Core, ps []api.Period, s api.Stoch, most int, want ...api.Scen) {
	t.Helper()
	two, ss, e := tree.Of(c, ps, s, most)
	own, _ := split.Of(c, ps)
	if e != api.OK || len(ss) != len(want) || !reflect.DeepEqual(two, own) {
		t.Errorf("P13.1: Of of %.200s: error %d, %d scenarios, not %d; %.300v", what, e, len(ss), len(want), fmt.Sprint(two))
		return
	}
	for k := range ss {
		sameScen(t, fmt.Sprint(what, ", scenario ", k), ss[k], want[k])
	}
}

// refuses holds that Of answers an error alone.
func refuses(t *testing.T, what string, c api.Core, ps []api.Period, s api.Stoch, most int, want api.Errno) {
	t.Helper()
	two, ss, e := tree.Of(c, ps, s, most)
	if e != want || ss != nil || !reflect.DeepEqual(two, api.Two{}) {
		t.Errorf("P13.1: Of of %.200s: error %d, not %d; %d scenarios, %.200v", what, e, want, len(ss), fmt.Sprint(two))
	}
}

func TestOfNoGroups(t *testing.T) {
	for _, kind := range []int{api.KIndep, api.KBlock} {
		for _, most := range mosts {
			grows(t, "no groups", good(), halves(), api.Stoch{Kind: kind}, most, second("1", nil))
		}
	}
	grows(t, "a case of no entries", good(), halves(), blocks(block("q", one("1"))), 1, second("1", nil))
	grows(t, "a scenario of no entries", good(), halves(), scenarios(one("1")), 1, second("1", nil))
}

// Each kind of place, each kind of Stoch.
func TestOfEachKind(t *testing.T) {
	side := func(v string) func(*api.Scen) { return func(s *api.Scen) { s.Second.Rows[1].Rhs = v } }
	cost := func(v string) func(*api.Scen) { return func(s *api.Scen) { s.Second.Cols[2].Cost = v } }
	tech := func(cs []api.Coef) func(*api.Scen) { return func(s *api.Scen) { s.Tech[0] = cs } }
	coef := func(cs []api.Coef) func(*api.Scen) { return func(s *api.Scen) { s.Second.Rows[0].Coef = cs } }
	for k, x := range []struct {
		col, row string
		vs       []string
		want     []func(*api.Scen)
	}{
		{"", "link", []string{"7", "0", "-1/3"}, []func(*api.Scen){side("7"), side("0"), side("-1/3")}},
		{"z", "cost", []string{"7", "0", "-1/3"}, []func(*api.Scen){cost("7"), cost("0"), cost("-1/3")}},
		{"a", "need", []string{"7", "0", "3"}, []func(*api.Scen){tech(coefs(0, "7")), tech(nil), nil}},
		{"b", "need", []string{"7", "0", "-1/3"}, []func(*api.Scen){tech(coefs(0, "3", 1, "7")), nil, tech(coefs(0, "3", 1, "-1/3"))}},
		{"x", "need", []string{"7", "0", "4"}, []func(*api.Scen){coef(coefs(0, "7", 1, "5")), coef(coefs(1, "5")), nil}},
		{"y", "need", []string{"7", "0", "-1/3"}, []func(*api.Scen){coef(coefs(0, "4", 1, "7")), coef(coefs(0, "4")), coef(coefs(0, "4", 1, "-1/3"))}},
		{"z", "need", []string{"7", "0", "-1/3"}, []func(*api.Scen){coef(coefs(0, "4", 1, "5", 2, "7")), nil, coef(coefs(0, "4", 1, "5", 2, "-1/3"))}},
	} {
		var want []api.Scen
		var cases []api.Case
		for i, p := range []string{"1/2", "1/3", "1/6"} {
			want = append(want, second(p, x.want[i]))
			cases = append(cases, one(p, entry(x.col, x.row, x.vs[i])))
		}
		grows(t, fmt.Sprint("INDEP ", k), good(), halves(), api.Stoch{Kind: api.KIndep, Groups: []api.Group{block("", cases...)}}, 3, want...)
		grows(t, fmt.Sprint("BLOCKS ", k), good(), halves(), blocks(block("q", cases...)), 3, want...)
		grows(t, fmt.Sprint("SCENARIOS ", k), good(), halves(), scenarios(cases...), 3, want...)
	}
}

// The last group's case changes first; what the groups say lies one over the
// other; a case that has no entry of a place leaves the core's own.
func TestOfSeveralGroups(t *testing.T) {
	s := blocks(
		block("sides", one("1/3", entry("", "need", "10")), one("2/3", entry("", "own", "-2"), entry("b", "bare", "1/9"))),
		block("costs", one("1/2"), one("1/4", entry("y", "cost", "0")), one("1/4", entry("x", "cost", "30"), entry("y", "cost", "40"), entry("z", "cost", "50"))),
		block("fixed", one("1", entry("a", "own", "0"), entry("x", "own", "2"))),
		block("coefs", one("3/4", entry("z", "need", "6"), entry("x", "need", "0")), one("1/4", entry("a", "link", "5"))),
	)
	var want []api.Scen
	for i, first := range []string{"1/3", "2/3"} {
		for k, next := range []string{"1/2", "1/4", "1/4"} {
			for j, last := range []string{"3/4", "1/4"} {
				p := product(first, next, last)
				want = append(want, second(p, func(s *api.Scen) {
					rows := s.Second.Rows
					if i == 0 {
						rows[0].Rhs = "10"
					} else {
						rows[2].Rhs, s.Tech[3] = "-2", coefs(1, "1/9")
					}
					costs := [][]string{{"3", "4", "-1/2"}, {"3", "0", "-1/2"}, {"30", "40", "50"}}[k]
					s.Second.Cols = slices.Clone(s.Second.Cols)
					for at, v := range costs {
						s.Second.Cols[at].Cost = v
					}
					s.Tech[2], rows[2].Coef = coefs(1, "6"), coefs(0, "2")
					if j == 0 {
						rows[0].Coef = coefs(1, "5", 2, "6")
					} else {
						s.Tech[1] = coefs(0, "5")
					}
				}))
			}
		}
	}
	for _, most := range []int{0, 12, 13, 64, 65} {
		grows(t, "four blocks", good(), halves(), s, most, want...)
	}
	refuses(t, "four blocks", good(), halves(), s, 11, api.ErrLimit)
}

func product(ps ...string) string {
	all := big.NewRat(1, 1)
	for _, p := range ps {
		x, _ := new(big.Rat).SetString(p)
		all.Mul(all, x)
	}
	return all.RatString()
}

func TestOfOrder(t *testing.T) {
	vs := map[int][]string{0: {"10", "11"}, 1: {"20", "21", "22"}, 2: {"30"}, 3: {"40", "41"}}
	s := indep(vs, api.Place{Row: "need"}, api.Place{Row: "bare"}, api.Place{Row: "own"}, api.Place{Row: "link"})
	_, ss, e := tree.Of(good(), halves(), s, 0)
	got := fmt.Sprint(int(e))
	for _, s := range ss {
		rows := s.Second.Rows
		got += fmt.Sprint(" ", s.P, ":", rows[0].Rhs, rows[3].Rhs, rows[2].Rhs, rows[1].Rhs)
	}
	if want := "0 1/12:10203040 1/12:10203041 1/12:10213040 1/12:10213041 1/12:10223040 1/12:10223041 1/12:11203040 1/12:11203041 1/12:11213040 1/12:11213041 1/12:11223040 1/12:11223041"; got != want {
		t.Errorf("P13.1: Of of four places:\n%s, not\n%s", got, want)
	}
}

// P is the product, in lowest terms, of whatever length.
func TestOfProbabilities(t *testing.T) {
	less := func(p string) string {
		x, _ := new(big.Rat).SetString(p)
		return x.Sub(big.NewRat(1, 1), x).RatString()
	}
	long := "1" + strings.Repeat("0", 1999)
	for _, ps := range [][]string{{"1/2", "2/3"}, {"2/3", "3/4", "4/5"}, {"1/4294967296", "1/4294967297"}, {"1/18446744073709551616", "3/7", "18446744073709551615/18446744073709551616"}, {"3/" + long}, {"3/" + long, "7/" + long}} {
		s := api.Stoch{Kind: api.KBlock}
		for k, p := range ps {
			s.Groups = append(s.Groups, block(fmt.Sprint("g", k), one(p), one(less(p))))
		}
		var want []api.Scen
		for bits := range 1 << len(ps) {
			var some []string
			for k, p := range ps {
				if bits>>(len(ps)-1-k)&1 == 1 {
					p = less(p)
				}
				some = append(some, p)
			}
			want = append(want, second(product(some...), nil))
		}
		grows(t, fmt.Sprintf("P of %.60q", ps), good(), halves(), s, 0, want...)
	}
}

// Whatever Coefs a row has, each column's may come, change, go, and stay.
func TestOfAllCoefs(t *testing.T) {
	names := []string{"a", "b", "x", "y", "z"}
	for bits := range 1 << len(names) {
		c := good()
		c.Rows[3].Coef = nil
		for col := range names {
			if bits>>col&1 == 1 {
				c.Rows[3].Coef = append(c.Rows[3].Coef, api.Coef{Col: col, V: fmt.Sprint(col - 9)})
			}
		}
		// Of each column no entry, one of 0, or one of another number.
		for choice := range 3 * 3 * 3 * 3 * 3 {
			var es []api.Entry
			changed := c
			changed.Rows = slices.Clone(c.Rows)
			for col, name := range names {
				if v := []string{"", "0", fmt.Sprint("1/", col+2)}[choice%3]; v != "" {
					es = append(es, entry(name, "own", v))
					change(&changed, es[len(es)-1])
				}
				choice /= 3
			}
			own, _ := split.Of(changed, halves())
			want := api.Scen{P: "1", Second: own.Second, Tech: own.Tech}
			grows(t, fmt.Sprint(c.Rows[3].Coef, es), c, halves(), scenarios(one("1", es...)), 0, want)
			slices.Reverse(es)
			grows(t, fmt.Sprint(c.Rows[3].Coef, es), c, halves(), scenarios(one("1", es...)), 0, want)
		}
	}
}

// A Range is two rows, of which each has its Coefs; rows behind it are moved.
func TestOfBehindRanges(t *testing.T) {
	for bits := range 1 << 5 {
		c := good()
		var es []api.Entry
		for k, row := range c.Rows {
			if bits>>k&1 == 1 {
				c.Rows[k].Range = fmt.Sprint(3 - k)
			} else if k > 0 {
				es = append(es, entry("", row.Name, "77"), entry("a", row.Name, "78"), entry("b", row.Name, "0"), entry("x", row.Name, "0"), entry("y", row.Name, "79"))
			}
		}
		two, _ := split.Of(c, halves())
		want := api.Scen{P: "1", Second: two.Second, Tech: two.Tech}
		for k := range want.Second.Rows {
			row := &want.Second.Rows[k]
			if !slices.ContainsFunc(es, func(e api.Entry) bool { return e.At.Row == row.Name }) {
				continue
			}
			row.Rhs, want.Tech[k] = "77", coefs(0, "78")
			row.Coef = slices.DeleteFunc(row.Coef, func(x api.Coef) bool { return x.Col < 2 })
			row.Coef = slices.Insert(row.Coef, 0, api.Coef{Col: 1, V: "79"})
		}
		grows(t, fmt.Sprint("Ranges ", bits), c, halves(), blocks(block("q", one("1", es...))), 0, want)
	}
}

// sized has 20 columns and 20 rows in either stage, and all Coefs.
func sized(v string) (api.Core, []api.Period) {
	c := api.Core{Name: "T", Obj: "cost"}
	for k := range 40 {
		c.Cols = append(c.Cols, api.Col{Name: fmt.Sprint("x", k), Low: "0", Up: v, Cost: v})
		row := api.Row{Name: fmt.Sprint("r", k), Kind: 1 + k%3, Rhs: v}
		for col := range 20 + 20*(k/20) {
			row.Coef = append(row.Coef, api.Coef{Col: col, V: v})
		}
		c.Rows = append(c.Rows, row)
	}
	return c, []api.Period{{Col: "x0", Row: "r0", Name: "now"}, {Col: "x20", Row: "r20", Name: "then"}}
}

// The greatest program: 64 scenarios of 40 entries, which change all that may
// change, with numbers that are as long as they may be.
func TestOfTheGreatest(t *testing.T) {
	long := strings.Repeat("9", 2000)
	c, ps := sized("1/" + long)
	var places []api.Place
	for k := range 20 {
		row := fmt.Sprint("r", 20+k)
		places = append(places, api.Place{Row: row}, api.Place{Col: fmt.Sprint("x", 20+k), Row: "cost"})
		for col := range 40 {
			places = append(places, api.Place{Col: fmt.Sprint("x", col), Row: row})
		}
	}
	var cases []api.Case
	want := make([]api.Scen, 64)
	for k := range want {
		all := c
		all.Rows, all.Cols = slices.Clone(c.Rows), slices.Clone(c.Cols)
		for row := range all.Rows {
			all.Rows[row].Coef = slices.Clone(all.Rows[row].Coef)
		}
		x := one("1/64")
		for i := range 40 {
			v := product("-1/"+long, fmt.Sprint(1+i%7))
			if i%3 == 1 {
				v = product(long, fmt.Sprint("1/", 2+i))
			}
			x.Es = append(x.Es, api.Entry{At: places[(40*k+i)%len(places)], V: v})
			change(&all, x.Es[i])
		}
		cases = append(cases, x)
		own, _ := split.Of(all, ps)
		want[k] = api.Scen{P: "1/64", Second: own.Second, Tech: own.Tech}
	}
	grows(t, "the greatest scenarios", c, ps, scenarios(cases...), 0, want...)
	grows(t, "the greatest block", c, ps, blocks(block("q", cases...)), 64, want...)
	refuses(t, "the greatest block", c, ps, blocks(block("q", cases...)), 63, api.ErrLimit)
}

// change gives a core itself the number that an entry has.
func change(c *api.Core, e api.Entry) {
	col := slices.IndexFunc(c.Cols, func(x api.Col) bool { return x.Name == e.At.Col })
	row := slices.IndexFunc(c.Rows, func(x api.Row) bool { return x.Name == e.At.Row })
	switch {
	case row < 0:
		c.Cols[col].Cost = e.V
		return
	case col < 0:
		c.Rows[row].Rhs = e.V
		return
	}
	vs := make([]string, len(c.Cols))
	for _, x := range c.Rows[row].Coef {
		vs[x.Col] = x.V
	}
	vs[col] = e.V
	c.Rows[row].Coef = nil
	for k, v := range vs {
		if v != "" && v != "0" {
			c.Rows[row].Coef = append(c.Rows[row].Coef, api.Coef{Col: k, V: v})
		}
	}
}

// 40 groups, of which six have two cases.
func TestOfFortyGroups(t *testing.T) {
	c, ps := sized("1")
	for _, kind := range []int{api.KIndep, api.KBlock} {
		s := api.Stoch{Kind: kind}
		for k := range 40 {
			at := api.Place{Row: fmt.Sprint("r", 20+k/2)}
			if k%2 == 1 {
				at.Col = fmt.Sprint("x", k)
			}
			g := api.Group{Cases: []api.Case{one("1", api.Entry{At: at, V: fmt.Sprint(100 + k)})}}
			if k%7 == 0 {
				g = api.Group{Cases: []api.Case{one("1/3", api.Entry{At: at, V: fmt.Sprint(200 + k)}), one("2/3", api.Entry{At: at, V: fmt.Sprint(300 + k)})}}
			}
			if kind == api.KBlock {
				g.Name = fmt.Sprint("g", k)
			}
			s.Groups = append(s.Groups, g)
		}
		grows(t, "40 groups", c, ps, s, 0, askedScens(c, ps, s.Groups)...)
		more := api.Group{Cases: []api.Case{one("1/2", entry("x39", "r39", "1")), one("1/2", entry("x39", "r39", "2"))}}
		if kind == api.KBlock {
			more.Name = "g40"
		}
		s.Groups[39] = more
		refuses(t, "128 scenarios", c, ps, s, 0, api.ErrLimit)
		s.Groups = append(s.Groups, more)
		s.Groups[40].Name = ""
		if kind == api.KBlock {
			s.Groups[40].Name = "g41"
			refuses(t, "41 groups", c, ps, s, 0, api.ErrLimit)
		} else {
			refuses(t, "two groups of one place", c, ps, s, 0, api.ErrForm)
		}
	}
}

// askedScens are the scenarios of groups whose entries may be: each is what the
// second stage is of a core that has the entries' numbers itself.
func askedScens(c api.Core, ps []api.Period, groups []api.Group) []api.Scen {
	var all []api.Scen
	var add func(p string, es []api.Entry, rest []api.Group)
	add = func(p string, es []api.Entry, rest []api.Group) {
		if len(rest) > 0 {
			for _, x := range rest[0].Cases {
				add(product(p, x.P), slices.Concat(es, x.Es), rest[1:])
			}
			return
		}
		own := c
		own.Rows, own.Cols = slices.Clone(c.Rows), slices.Clone(c.Cols)
		for _, e := range es {
			change(&own, e)
		}
		two, _ := split.Of(own, ps)
		all = append(all, api.Scen{P: p, Second: two.Second, Tech: two.Tech})
	}
	add("1", nil, groups)
	return all
}
