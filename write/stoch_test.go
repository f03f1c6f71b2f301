package write_test

import (
	"fmt"
	"math"
	"strings"
	"testing"

	"victualler/api"
	"victualler/stoch"
	"victualler/write"
)

func entry(col, row, v string) api.Entry {
	return api.Entry{At: api.Place{Col: col, Row: row}, V: v}
}

func one(p string, es ...api.Entry) api.Case { return api.Case{P: p, Es: es} }

func group(name string, cs ...api.Case) api.Group { return api.Group{Name: name, Cases: cs} }

func of(kind int, gs ...api.Group) api.Stoch { return api.Stoch{Kind: kind, Groups: gs} }

// told tells all of a Stoch (nil lists like empty ones).
func told(s api.Stoch) string { return fmt.Sprintf("%d %q", s.Kind, s.Groups) }

func keepsStoch(t *testing.T, what, name string, s api.Stoch) {
	t.Helper()
	text, ok := write.Stoch(name, s)
	got, read, line, e := stoch.Get(text)
	if !ok || e != api.OK || line != 0 || got != name || !stoch.Eq(read, s) || told(read) != told(s) {
		t.Errorf("V1: Stoch of %s: %v, then line %d, error %d: %.3000q", what, ok, line, e, text)
	}
}

func refusesStoch(t *testing.T, what, name string, s api.Stoch) {
	t.Helper()
	if text, ok := write.Stoch(name, s); ok || text != "" {
		t.Errorf("P11.1: Stoch of %s: %v, %.300q", what, ok, text)
	}
}

// goods may be: one of each kind.
func goods() []api.Stoch {
	return []api.Stoch{
		of(api.KIndep,
			group("", one("1/2", entry("x", "r", "1")), one("1/4", entry("x", "r", "-7/3")), one("1/4", entry("x", "r", "1"))),
			group("", one("1", entry("", "r", "5"))),
			group("", one("1/3", entry("y", "s", "0")), one("2/3", entry("y", "s", "1")))),
		of(api.KBlock,
			group("a", one("1/2", entry("x", "r", "1"), entry("", "r", "-7/3")), one("1/2", entry("x", "r", "0"), entry("y", "s", "4"))),
			group("b", one("1")),
			group("c", one("1/3", entry("x", "r", "1")), one("1/3"), one("1/3", entry("y", "r", "2"), entry("x", "r", "1")))),
		of(api.KScen, group("ROOT", one("1/2", entry("x", "r", "1"), entry("", "r", "-7/3")), one("1/3"), one("1/6", entry("y", "s", "0"), entry("x", "r", "1")))),
	}
}

func TestStoch(t *testing.T) {
	for _, s := range goods() {
		keepsStoch(t, "some of all", "T", s)
	}
	keepsStoch(t, "no places", "T", of(api.KIndep))
	keepsStoch(t, "no blocks", "T", of(api.KBlock))
	keepsStoch(t, "no blocks, an empty list", "T", api.Stoch{Kind: api.KBlock, Groups: []api.Group{}})
	keepsStoch(t, "one scenario", "T", of(api.KScen, group("ROOT", one("1"))))
	keepsStoch(t, "one scenario, an empty list", "T", of(api.KScen, group("ROOT", api.Case{P: "1", Es: []api.Entry{}})))
	keepsStoch(t, "scenarios alike", "T", of(api.KScen, group("ROOT", one("1/2", entry("x", "r", "1")), one("1/2", entry("x", "r", "1")))))
	keepsStoch(t, "blocks alike but for the name", "T", of(api.KBlock, group("b", one("1", entry("x", "r", "1"))), group("a", one("1", entry("x", "r", "1")))))
	keepsStoch(t, "a block named ROOT", "T", of(api.KBlock, group("ROOT", one("1/2"), one("1/2"))))
	refusesStoch(t, "nothing", "T", api.Stoch{})
	refusesStoch(t, "nothing at all", "", api.Stoch{})
}

func TestStochsNames(t *testing.T) {
	for _, name := range append(names(), "RHS", "'MARKER'") {
		for _, s := range goods() {
			keepsStoch(t, "some of all, by name "+name, name, s)
		}
		keepsStoch(t, "a block "+name, "T", of(api.KBlock, group("ahead", one("1")), group(name, one("1/2", entry("x", name, "1"), entry("", name, "1")), one("1/2", entry("x", name, "2"))), group("behind", one("1"))))
		for _, col := range []string{"", "x", name} {
			if col == "RHS" {
				continue
			}
			keepsStoch(t, "a place of row "+name, "T", of(api.KIndep, group("", one("1/2", entry(col, name, "1")), one("1/2", entry(col, name, "2")))))
			keepsStoch(t, "an entry of row "+name, "T", of(api.KBlock, group("b", one("1", entry(col, name, "1")))))
			keepsStoch(t, "a scenario's entry of row "+name, "T", of(api.KScen, group("ROOT", one("1", entry(col, name, "1"), entry("q1", "q2", "3")))))
		}
	}
	for _, name := range wrongNames() {
		for _, s := range goods() {
			refusesStoch(t, fmt.Sprintf("some of all, by name %.30q", name), name, s)
		}
		what := fmt.Sprintf("%.30q", name)
		refusesStoch(t, "a block "+what, "T", of(api.KBlock, group("a", one("1")), group(name, one("1"))))
		for _, at := range []api.Entry{entry("x", name, "1"), entry("", name, "1"), entry(name, "r", "1"), entry("RHS", "r", "1")} {
			if at.At.Col != "" || at.At.Row == name {
				refusesStoch(t, "a place of "+what, "T", of(api.KIndep, group("", one("1", at))))
				refusesStoch(t, "an entry of "+what, "T", of(api.KBlock, group("a", one("1", entry("x", "y", "1"), at))))
				refusesStoch(t, "a scenario's entry of "+what, "T", of(api.KScen, group("ROOT", one("1", at))))
			}
		}
	}
}

// each asks with one entry's value in each kind.
func each(v string, ask func(what string, s api.Stoch)) {
	what := fmt.Sprintf("the value %.50q", v)
	ask(what, of(api.KIndep, group("", one("1/2", entry("x", "r", "1")), one("1/2", entry("x", "r", v)))))
	ask(what, of(api.KBlock, group("a", one("1/2", entry("x", "r", "1"), entry("y", "r", v)), one("1/2", entry("x", "r", "1")))))
	ask(what, of(api.KScen, group("ROOT", one("1/2", entry("x", "r", "1")), one("1/2", entry("", "r", "1"), entry("x", "r", v)))))
}

// eachP asks with such probabilities in each kind.
func eachP(ps []string, ask func(what string, s api.Stoch)) {
	var values, cases []api.Case
	for k, p := range ps {
		values = append(values, one(p, entry("x", "r", fmt.Sprint(k))))
		cases = append(cases, one(p))
	}
	what := fmt.Sprintf("the probabilities %.200q", ps)
	ask(what, of(api.KIndep, group("", one("1", entry("", "r", "1"))), group("", values...)))
	ask(what, of(api.KBlock, group("a", values...), group("b", one("1"))))
	ask(what, of(api.KBlock, group("a", one("1")), group("b", cases...)))
	ask(what, of(api.KScen, group("ROOT", values...)))
	ask(what, of(api.KScen, group("ROOT", cases...)))
}

func TestStochsNumbers(t *testing.T) {
	keep := func(what string, s api.Stoch) { t.Helper(); keepsStoch(t, what, "T", s) }
	refuse := func(what string, s api.Stoch) { t.Helper(); refusesStoch(t, what, "T", s) }
	for _, v := range numbers() {
		each(v, keep)
	}
	for _, v := range append(append(wrongNumbers(), tooLong()...), "") {
		each(v, refuse)
	}
	// 10^19 + 51 is a prime; three such parts of it have 40 bytes each, two have
	// 40 and 41.
	const prime = "10000000000000000051"
	parts := []string{"1000000000000000000/" + prime, "4000000000000000000/" + prime, "5000000000000000051/" + prime}
	longer := []string{"10000000000000000049/" + prime, "2/" + prime}
	if len(parts[0]) != 40 || len(longer[0]) != 41 || stoch.May(of(api.KScen, group("ROOT", one(longer[0]), one(longer[1])))) != api.OK {
		t.Fatal("the test is wrong")
	}
	for _, ps := range [][]string{{"1"}, {"1/2", "1/2"}, {"1/7", "2/7", "4/7"}, {"1/3", "1/6", "1/2"}, parts, {parts[2], parts[0], parts[1]}} {
		eachP(ps, keep)
	}
	for _, ps := range [][]string{longer, {longer[1], longer[0]}, {"2"}, {"1/2"}, {"1/2", "1/2", "1/2"}, {"0", "1"}, {"1", "0"}, {"-1", "2"}, {""}, {"1", ""}, {"1.0"}, {"1/1"}, {"0.5", "0.5"}, {"2/4", "1/2"}, {"+1"}, {"x"}, {"1 "}, {"1/2", "1/3", "1/7"}} {
		eachP(ps, refuse)
	}
}

func TestStochOfWhatMayNotBe(t *testing.T) {
	for _, kind := range []int{0, 4, -1, 5, math.MaxInt, math.MinInt, 1<<32 + 1} {
		for _, s := range goods() {
			s.Kind = kind
			refusesStoch(t, fmt.Sprint("Kind ", kind), "T", s)
		}
		refusesStoch(t, fmt.Sprint("Kind ", kind), "T", of(kind))
	}
	// None of goods is of another kind, too, but the last: a block may be ROOT.
	for k, s := range goods() {
		for _, kind := range []int{api.KIndep, api.KBlock, api.KScen} {
			if mine := []int{api.KIndep, api.KBlock, api.KScen}[k]; kind != mine && mine != api.KScen {
				refusesStoch(t, "another kind", "T", of(kind, s.Groups...))
			}
		}
	}
	x, y := entry("x", "r", "1"), entry("y", "r", "1")
	for _, s := range []api.Stoch{
		of(api.KIndep, group("a", one("1", x))), of(api.KIndep, group("")), of(api.KIndep, group("", one("1"))), of(api.KIndep, group("", one("1", x, y))), of(api.KIndep, group("", one("1/2", x), one("1/2", y))),
		of(api.KIndep, group("", one("1", x)), group("", one("1", x))), of(api.KIndep, group("", one("1", x)), group("", one("1", y)), group("", one("1", x))),
		of(api.KBlock, group("a")), of(api.KBlock, group("", one("1"))), of(api.KBlock, group("a", one("1")), group("a", one("1"))), of(api.KBlock, group("a", one("1", x, y, x))),
		of(api.KScen), of(api.KScen, group("ROOT")), of(api.KScen, group("", one("1"))), of(api.KScen, group("'ROOT'", one("1"))), of(api.KScen, group("root", one("1"))), of(api.KScen, group("ROOT", one("1")), group("ROOT", one("1"))), of(api.KScen, group("ROOT", one("1", x, x))),
	} {
		refusesStoch(t, told(s), "T", s)
	}
}

// many is a Stoch of so many cases of one P and so many entries beyond those that
// the cases must have.
func many(kind, cases, more int) api.Stoch {
	s := of(kind)
	for k := range cases {
		if k%50 == 0 && (kind != api.KScen || k == 0) {
			s.Groups = append(s.Groups, group(map[int]string{api.KBlock: fmt.Sprint("b", k), api.KScen: "ROOT"}[kind]))
		}
		g := &s.Groups[len(s.Groups)-1]
		c := one("1/50")
		if kind == api.KIndep {
			c = one("1/50", entry(fmt.Sprint("x", k/50), "r", fmt.Sprint(k)))
		}
		for len(c.Es) < 40 && more > 0 {
			c.Es = append(c.Es, entry("x", fmt.Sprint("r", len(c.Es)), "1"))
			more--
		}
		g.Cases = append(g.Cases, c)
	}
	return s
}

func TestStochAtItsLimits(t *testing.T) {
	keepsStoch(t, "50 scenarios, 1,950 entries", "T", many(api.KScen, 50, 1950))
	refusesStoch(t, "50 scenarios, 1,951 entries", "T", many(api.KScen, 50, 1951))
	keepsStoch(t, "500 cases, 1,500 entries", "T", many(api.KBlock, 500, 1500))
	refusesStoch(t, "500 cases, 1,501 entries", "T", many(api.KBlock, 500, 1501))
	keepsStoch(t, "2,000 cases", "T", many(api.KBlock, 2000, 0))
	keepsStoch(t, "1,950 cases, 50 entries", "T", many(api.KBlock, 1950, 50))
	refusesStoch(t, "1,950 cases, 51 entries", "T", many(api.KBlock, 1950, 51))
	keepsStoch(t, "1,000 places' cases", "T", many(api.KIndep, 1000, 0))
	for _, more := range []api.Stoch{many(api.KIndep, 1050, 0), of(api.KIndep, append(many(api.KIndep, 1000, 0).Groups, group("", one("1", entry("", "r", "1"))))...)} {
		if stoch.May(more) != api.OK {
			t.Fatal("the test is wrong")
		}
		refusesStoch(t, "more than 1,000 places' cases", "T", more)
	}
	one2001 := of(api.KBlock, append(many(api.KBlock, 1950, 0).Groups, group("z", one("1", many(api.KScen, 1, 40).Groups[0].Cases[0].Es...)), group("y", one("1/2", entry("x", "r", "1")), one("1/2", entry("x", "r", "1"))), group("w", one("1/3"), one("1/3"), one("1/3")), group("v", one("1")))...)
	if stoch.May(one2001) != api.ErrLimit {
		t.Fatal("the test is wrong")
	}
	refusesStoch(t, "43 groups", "T", one2001)
	var gs []api.Group
	for k := range 41 {
		gs = append(gs, group("", one("1", entry(fmt.Sprint("x", k), "r", "1"))))
	}
	keepsStoch(t, "40 places", "T", of(api.KIndep, gs[:40]...))
	refusesStoch(t, "41 places", "T", of(api.KIndep, gs...))
	for k := range gs {
		gs[k].Name = fmt.Sprint("b", k)
	}
	keepsStoch(t, "40 blocks", "T", of(api.KBlock, gs[:40]...))
	refusesStoch(t, "41 blocks", "T", of(api.KBlock, gs...))
	for n := 1; n <= 66; n++ {
		var ps []string
		for range n {
			ps = append(ps, "1/"+fmt.Sprint(n))
		}
		ps[0] = map[bool]string{true: "1", false: ps[0]}[n == 1]
		eachP(ps, func(what string, s api.Stoch) {
			t.Helper()
			if n <= 64 {
				keepsStoch(t, what, "T", s)
			} else {
				refusesStoch(t, what, "T", s)
			}
		})
	}
	for _, n := range []int{0, 1, 39, 40, 41, 100, 1999, 2000} {
		var es []api.Entry
		for k := range n {
			es = append(es, entry("x", fmt.Sprint("r", k), "1"))
		}
		for _, s := range []api.Stoch{of(api.KScen, group("ROOT", one("1", es...))), of(api.KBlock, group("a", one("1/2"), one("1/2", es...)))} {
			if what := fmt.Sprintf("%d entries", n); n <= 40 {
				keepsStoch(t, what, "T", s)
			} else {
				refusesStoch(t, what, "T", s)
			}
		}
	}
}

// The longest words that may be, as many as may be.
func TestStochOfLongLines(t *testing.T) {
	for _, kind := range []int{api.KBlock, api.KScen} {
		s := many(kind, 50, 1950)
		s.Groups[0].Name = map[int]string{api.KBlock: name20, api.KScen: "ROOT"}[kind]
		for k := range s.Groups[0].Cases {
			es := s.Groups[0].Cases[k].Es
			for i := range es {
				es[i] = entry(fmt.Sprintf("%020d", i), name20, "1/"+nines(38))
			}
		}
		keepsStoch(t, "long entries", name20, s)
	}
	s := many(api.KIndep, 1000, 0)
	for k, g := range s.Groups {
		for i := range g.Cases {
			g.Cases[i].Es[0] = entry(fmt.Sprintf("%020d", k), name20, "-"+nines(39))
		}
	}
	keepsStoch(t, "long places", name20, s)
}

// Lists that are far too long, and sums that would take too long, end a call soon.
func TestStochOfLongLists(t *testing.T) {
	es := make([]api.Entry, 1<<20)
	cs := make([]api.Case, 1<<12)
	for k := range cs {
		cs[k] = api.Case{P: "1/4096", Es: es}
	}
	gs := make([]api.Group, 1<<12)
	for k := range gs {
		gs[k] = group(fmt.Sprint("b", k), cs...)
	}
	for _, kind := range []int{api.KIndep, api.KBlock, api.KScen, 0} {
		refusesStoch(t, "lists that are too long", "T", of(kind, gs...))
		refusesStoch(t, "a group that is too long", "T", of(kind, group("ROOT", cs...)))
		refusesStoch(t, "a case that is too long", "T", of(kind, group("ROOT", cs[0])))
		refusesStoch(t, "empty groups", "T", of(kind, make([]api.Group, 1<<20)...))
	}
	sum := group("ROOT")
	for k := range 2000 {
		sum.Cases = append(sum.Cases, one("1/"+nines(1990)+fmt.Sprint(1001+2*k)))
	}
	for _, kind := range []int{api.KBlock, api.KScen} {
		refusesStoch(t, "a sum that is too long", "T", of(kind, sum))
	}
}

// roomyStoch is s with spare room behind all lists, in which nothing may change.
func roomyStoch(s api.Stoch) api.Stoch {
	gs := append([]api.Group(nil), s.Groups...)
	for k := range gs {
		cs := append([]api.Case(nil), gs[k].Cases...)
		for i := range cs {
			cs[i].Es = append(append([]api.Entry(nil), cs[i].Es...), entry("spare", "room", "1"))[:len(cs[i].Es)]
		}
		gs[k].Cases = append(cs, one("spare"))[:len(cs)]
	}
	return api.Stoch{Kind: s.Kind, Groups: append(gs, group("spare"))[:len(gs)]}
}

// spreadStoch tells all of s, its spare room too.
func spreadStoch(s api.Stoch) string {
	var all strings.Builder
	for _, g := range s.Groups[:cap(s.Groups)] {
		fmt.Fprintf(&all, "%q\n", g.Name)
		for _, c := range g.Cases[:cap(g.Cases)] {
			fmt.Fprintf(&all, "%q %q\n", c.P, c.Es[:cap(c.Es)])
		}
	}
	return all.String() + told(s)
}

func TestStochChangesAndKeepsNothing(t *testing.T) {
	for _, s := range append(goods(), many(api.KScen, 50, 1950), many(api.KScen, 50, 1951), of(api.KBlock), api.Stoch{}) {
		first, _ := write.Stoch("T", s)
		mine := roomyStoch(s)
		was := spreadStoch(mine)
		text, ok := write.Stoch("T", mine)
		if spreadStoch(mine) != was {
			t.Errorf("P0.3: Stoch changes what it is handed: %.300s", was)
		}
		if len(mine.Groups) > 0 {
			mine.Groups[0].Cases[0] = one("7")
		}
		write.Stoch("U", goods()[1])
		if again, same := write.Stoch("T", s); again != first || text != first || same != ok {
			t.Errorf("P0.5: Stoch answers %.300q, %.300q, %.300q of one Stoch", first, text, again)
		}
	}
}
