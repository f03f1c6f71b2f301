package tree_test

import (
	"fmt"
	"reflect"
	"slices"
	"testing"

	"victualler/api"
	"victualler/tree"
)

// area is the memory of a list, its spare room too.
type area struct{ from, to uintptr }

// areasOf are those of all lists in x that have room.
func areasOf(x reflect.Value) []area {
	var all []area
	switch x.Kind() {
	case reflect.Struct:
		for k := range x.NumField() {
			all = append(all, areasOf(x.Field(k))...)
		}
	case reflect.Slice:
		if x.Cap() > 0 {
			all = append(all, area{x.Pointer(), x.Pointer() + uintptr(x.Cap())*x.Type().Elem().Size()})
		}
		for k := range x.Len() {
			all = append(all, areasOf(x.Index(k))...)
		}
	}
	return all
}

// apart tells whether no two share any memory.
func apart(all []area) bool {
	slices.SortFunc(all, func(a, b area) int {
		if a.from < b.from {
			return -1
		}
		return 1
	})
	for k := range len(all) - 1 {
		if all[k].to > all[k+1].from {
			return false
		}
	}
	return true
}

// answer is all that Of answers.
type answer struct {
	two api.Two
	ss  []api.Scen
	e   api.Errno
}

func of(g given) answer {
	two, ss, e := tree.Of(g.c, g.ps, g.s, g.most)
	return answer{two, ss, e}
}

// bound is rich with a Range in each stage.
func bound() given {
	g := rich()
	g.c.Rows[0].Range, g.c.Rows[2].Range = "3", "-1/2"
	return g
}

// full is the greatest core, of which each scenario changes a few numbers.
func full() given {
	c, ps := sized("1")
	s := blocks(block("a"), block("b"))
	for k := range 8 {
		s.Groups[0].Cases = append(s.Groups[0].Cases, one("1/8", entry("x1", "r20", fmt.Sprint(k)), entry("x30", "r20", fmt.Sprint(k)), entry("x30", "cost", "0")))
		s.Groups[1].Cases = append(s.Groups[1].Cases, one("1/8", entry("", "r21", fmt.Sprint(k)), entry("x39", "r39", fmt.Sprint(k))))
	}
	return given{c, ps, s, 64}
}

// No two lists share any memory: neither two of one answer, nor of two answers,
// nor with what was handed in.
func TestAnswersAreNewMemory(t *testing.T) {
	plain := rich()
	plain.s = api.Stoch{Kind: api.KIndep}
	for k, make := range []func() given{rich, bound, full, func() given { return plain }} {
		g := make()
		a, b := of(g), of(g)
		if a.e != api.OK || !apart(areasOf(reflect.ValueOf(struct {
			g    given
			a, b answer
		}{g, a, b}))) {
			t.Errorf("P0.3: Of of %d: error %d, or lists that share memory", k, a.e)
		}
		scribble(a)
		if again := of(g); !reflect.DeepEqual(again, b) {
			t.Errorf("P0.3: Of of %d: what is written into one answer is in another one", k)
		}
	}
}

// scribble writes over all of an answer, its spare room too.
func scribble(a answer) {
	for k := range a.ss {
		scribbleLP(a.ss[k].Second, a.ss[k].Tech)
	}
	for k := range a.ss[:cap(a.ss)] {
		a.ss[:cap(a.ss)][k] = api.Scen{P: "blot"}
	}
	scribbleLP(a.two.First, nil)
	scribbleLP(a.two.Second, a.two.Tech)
}

func scribbleLP(l api.LP, tech [][]api.Coef) {
	for _, row := range l.Rows {
		blot(row.Coef)
	}
	for _, cs := range tech {
		blot(cs)
	}
	for k := range l.Cols[:cap(l.Cols)] {
		l.Cols[:cap(l.Cols)][k] = api.Col{Name: "blot"}
	}
	for k := range l.Rows[:cap(l.Rows)] {
		l.Rows[:cap(l.Rows)][k] = api.Row{Name: "blot"}
	}
	for k := range tech[:cap(tech)] {
		tech[:cap(tech)][k] = coefs(99, "blot")
	}
}

func blot(cs []api.Coef) {
	for k := range cs[:cap(cs)] {
		cs[:cap(cs)][k] = api.Coef{Col: 99, V: "blot"}
	}
}

// roomy is g with spare room behind all lists, in which nothing may change.
func roomy(g given) given {
	g.c.Rows = append(slices.Clip(g.c.Rows), api.Row{Name: "spare"})[:len(g.c.Rows)]
	g.c.Cols = append(slices.Clip(g.c.Cols), api.Col{Name: "spare"})[:len(g.c.Cols)]
	g.ps = append(slices.Clip(g.ps), api.Period{Name: "spare"})[:len(g.ps)]
	g.s.Groups = append(slices.Clip(g.s.Groups), api.Group{Name: "spare"})[:len(g.s.Groups)]
	for k := range g.c.Rows {
		cs := &g.c.Rows[k].Coef
		*cs = append(slices.Clip(*cs), api.Coef{Col: 77, V: "spare"})[:len(*cs)]
	}
	for k := range g.s.Groups {
		cases := &g.s.Groups[k].Cases
		*cases = append(slices.Clip(*cases), api.Case{P: "spare"})[:len(*cases)]
		for i := range *cases {
			es := &(*cases)[i].Es
			*es = append(slices.Clip(*es), entry("s", "s", "spare"))[:len(*es)]
		}
	}
	return g
}

// spread tells all of g, its spare room too.
func spread(g given) string {
	all := fmt.Sprint(g.c.Name, g.c.Obj, g.c.Cols[:cap(g.c.Cols)], g.ps[:cap(g.ps)], g.s.Kind, g.most)
	for _, row := range g.c.Rows[:cap(g.c.Rows)] {
		all += fmt.Sprint("\n", row, row.Coef[:cap(row.Coef)])
	}
	for _, x := range g.s.Groups[:cap(g.s.Groups)] {
		all += fmt.Sprint("\n", x, x.Cases[:cap(x.Cases)])
		for _, one := range x.Cases[:cap(x.Cases)] {
			all += fmt.Sprint("\n", one.Es[:cap(one.Es)])
		}
	}
	return all
}

// Whatever the answer is: what was handed in is as it was, and the next call
// answers the same.
func TestNothingChanges(t *testing.T) {
	for k, f := range append(faults(), fault{turn: func(*given) {}}) {
		for _, make := range []func() given{rich, bound, full} {
			g := make()
			// Some faults are of places that full does not have.
			if len(g.s.Groups) == 3 || f.want == api.OK {
				f.turn(&g)
			}
			g = roomy(g)
			was := spread(g)
			first := of(g)
			n, ok := tree.Count(g.s, g.most)
			if again := of(g); !reflect.DeepEqual(again, first) {
				t.Errorf("P0.5: Of of fault %d answers %.300v, then %.300v", k, fmt.Sprint(first), fmt.Sprint(again))
			}
			if m, okToo := tree.Count(g.s, g.most); m != n || okToo != ok {
				t.Errorf("P0.5: Count of fault %d answers %d, %v, then %d, %v", k, n, ok, m, okToo)
			}
			if got := spread(g); got != was {
				t.Errorf("P0.3: what is handed in is changed: %s, then %s", was, got)
			}
		}
	}
}

// Lists that are empty are as nil ones.
func TestNilIsEmpty(t *testing.T) {
	c := good()
	c.Rows[4].Coef = []api.Coef{}
	grows(t, "an empty row", c, halves(), blocks([]api.Group{}...), 0, second("1", nil))
	grows(t, "empty groups", c, halves(), api.Stoch{Kind: api.KIndep, Groups: []api.Group{}}, 0, second("1", nil))
	grows(t, "an empty case", c, halves(), scenarios(api.Case{P: "1", Es: []api.Entry{}}), 0, second("1", nil))
	c.Rows[4].Coef = coefs(0, "1", 3, "1")
	grows(t, "a row whose Coefs go", c, halves(), scenarios(one("1", entry("a", "bare", "0"), entry("y", "bare", "0"))), 0, second("1", nil))
	for _, cases := range [][]api.Case{nil, {}} {
		refuses(t, "no cases", good(), halves(), api.Stoch{Kind: api.KIndep, Groups: []api.Group{{Cases: cases}}}, 0, api.ErrForm)
		refuses(t, "no cases", good(), halves(), blocks(block("a", cases...)), 0, api.ErrForm)
		refuses(t, "no cases", good(), halves(), scenarios(cases...), 0, api.ErrProb)
	}
	for _, ps := range [][]api.Period{nil, {}} {
		refuses(t, "no periods", good(), ps, api.Stoch{}, 0, api.ErrForm)
		refuses(t, "no core", api.Core{Rows: []api.Row{}, Cols: []api.Col{}}, ps, api.Stoch{Groups: []api.Group{}}, 0, api.ErrName)
	}
	if two, ss, e := tree.Of(good(), halves(), blocks([]api.Group{}...), 0); e != api.OK || len(ss) != 1 || ss[0].P != "1" || len(two.Tech) != 4 {
		t.Errorf("P0.4: Of of no groups: error %d, %v", e, ss)
	}
}
