package write_test

import (
	"fmt"
	"math/big"
	"regexp"
	"slices"
	"testing"

	"victualler/api"
	"victualler/core"
	"victualler/period"
	"victualler/stoch"
	"victualler/write"
)

// dice throws numbers that are the same in every run.
type dice uint64

func (d *dice) below(n int) int {
	*d = *d*6364136223846793005 + 1442695040888963407
	return int(*d>>33) % n
}

func (d *dice) of(texts ...string) string { return texts[d.below(len(texts))] }

// number throws a number of a file, now and then a long one or a wrong one.
func (d *dice) number() string {
	switch d.below(400) {
	case 0:
		return d.of(tooLong()...)
	case 1:
		return d.of(wrongNumbers()...)
	}
	if d.below(5) == 0 {
		return d.of(numbers()...)
	}
	return big.NewRat(int64(d.below(100)-50), int64(d.below(30)+1)).RatString()
}

func (d *dice) maybe() string {
	if d.below(3) == 0 {
		return ""
	}
	return d.number()
}

// distinct throws names that all differ, now and then one that is none.
func (d *dice) distinct(n int) []string {
	all, seen := append(names(), "q", "r", "s", "t"), map[string]int{}
	var found []string
	for len(found) < n {
		name := d.of(all...)
		if d.below(2000) == 0 {
			name = d.of(wrongNames()...)
		}
		if seen[name]++; seen[name] == 1 {
			found = append(found, name)
		}
	}
	return found
}

// some throws a number up to most, more often a small one.
func (d *dice) some(most int) int {
	if d.below(10) == 0 {
		return d.below(most + 1)
	}
	return d.below(min(most, 6) + 1)
}

func (d *dice) core() api.Core {
	m, n := d.some(41), d.some(41)
	rows, cols := d.distinct(m+2), d.distinct(n)
	c := api.Core{Name: rows[m+1], Obj: rows[m]}
	for k := range n {
		c.Cols = append(c.Cols, api.Col{Name: cols[k], Low: d.maybe(), Up: d.maybe(), Cost: d.number(), Int: d.below(3) == 0})
	}
	for k := range m {
		row := api.Row{Name: rows[k], Kind: 1 + d.below(3), Rhs: d.number(), Range: d.maybe()}
		for col := range n {
			if v := d.number(); d.below(3) == 0 && (v != "0" || d.below(20) == 0) {
				row.Coef = append(row.Coef, api.Coef{Col: col, V: v})
			}
		}
		c.Rows = append(c.Rows, row)
	}
	return c
}

// texts are all of the numbers' texts of a Core.
func texts(c api.Core) []string {
	var all []string
	for _, row := range c.Rows {
		all = append(all, row.Rhs, row.Range)
		for _, x := range row.Coef {
			all = append(all, x.V)
		}
	}
	for _, col := range c.Cols {
		all = append(all, col.Low, col.Up, col.Cost)
	}
	return all
}

func over40(all []string) bool {
	return slices.ContainsFunc(all, func(s string) bool { return len(s) > 40 })
}

func TestCoreOfThrownCores(t *testing.T) {
	d := dice(11)
	kept, long, wrong := 0, 0, 0
	for range 4000 {
		c := d.core()
		switch may := core.May(c) == api.OK; {
		case may && !over40(texts(c)):
			kept++
			keeps(t, "a thrown core", c)
		case may:
			long++
			refuses(t, fmt.Sprintf("a thrown core: %.300s", fmt.Sprint(c)), c)
		default:
			wrong++
			refuses(t, fmt.Sprintf("a thrown core: %.300s", fmt.Sprint(c)), c)
		}
	}
	if kept < 1500 || long < 100 || wrong < 200 {
		t.Errorf("the test is wrong: %d, %d, %d", kept, long, wrong)
	}
}

// shares throws n probabilities that come to 1.
func (d *dice) shares(n int) []string {
	sum, parts := 0, make([]int, n)
	for k := range parts {
		parts[k] = 1 + d.below(9)
		sum += parts[k]
	}
	var all []string
	for _, part := range parts {
		all = append(all, big.NewRat(int64(part), int64(sum)).RatString())
	}
	if d.below(60) == 0 {
		all[d.below(n)] = d.number()
	}
	return all
}

func (d *dice) place() api.Place {
	return api.Place{Col: d.of("", "x", "y", "z", "BL", "SC", "*", name20), Row: d.of("r", "s", "t", "RHS", "ROOT", "x", name20)}
}

func (d *dice) entries(n int) []api.Entry {
	var es []api.Entry
	seen := map[api.Place]int{}
	for range n {
		at := d.place()
		if seen[at]++; seen[at] == 1 || d.below(300) == 0 {
			es = append(es, api.Entry{At: at, V: d.number()})
		}
	}
	return es
}

func (d *dice) cases(most int, es func() []api.Entry) []api.Case {
	var cs []api.Case
	for _, p := range d.shares(1 + d.below(most)) {
		cs = append(cs, api.Case{P: p, Es: es()})
	}
	return cs
}

func (d *dice) stoch() api.Stoch {
	s := api.Stoch{Kind: 1 + d.below(3)}
	switch s.Kind {
	case api.KIndep:
		for _, e := range d.entries(d.some(42)) {
			s.Groups = append(s.Groups, group("", d.cases(8, func() []api.Entry { return []api.Entry{{At: e.At, V: d.number()}} })...))
		}
	case api.KBlock:
		for _, name := range d.distinct(d.some(42)) {
			s.Groups = append(s.Groups, group(name, d.cases(4, func() []api.Entry { return d.entries(d.some(8)) })...))
		}
	default:
		most := 1 + d.below(70)
		s.Groups = []api.Group{group("ROOT", d.cases(most, func() []api.Entry { return d.entries(d.below(40)) })...)}
	}
	if d.below(100) == 0 {
		s.Kind = d.below(5)
	}
	return s
}

// sizes are the numbers' texts of a Stoch, and how many cases and entries it has.
func sizes(s api.Stoch) (numbers []string, count int) {
	for _, g := range s.Groups {
		for _, c := range g.Cases {
			count++
			numbers = append(numbers, c.P)
			for _, e := range c.Es {
				count++
				numbers = append(numbers, e.V)
			}
		}
	}
	return numbers, count
}

func TestStochOfThrownStochs(t *testing.T) {
	d := dice(12)
	kept, refused := [4]int{}, map[string]int{}
	for range 3000 {
		s := d.stoch()
		numbers, count := sizes(s)
		why := ""
		switch {
		case stoch.May(s) != api.OK:
			why = "wrong"
		case over40(numbers):
			why = "long"
		case count > 2000:
			why = "many"
		}
		if refused[why]++; why != "" {
			refusesStoch(t, fmt.Sprintf("a thrown one that is %s: %.300s", why, told(s)), "T", s)
			continue
		}
		kept[s.Kind]++
		keepsStoch(t, "a thrown one", d.of(names()...), s)
	}
	if min(kept[1], kept[2], kept[3]) < 300 || refused["wrong"] < 150 || refused["long"] < 50 {
		t.Errorf("the test is wrong: %v, %v", kept, refused)
	}
}

// What is written of any three words, numbers and places is read as it was, or it
// is not written.
func FuzzWrite(f *testing.F) {
	f.Add("T", "x", "r", "1", "1/2", 2, true)
	f.Add("RHS", "RHS", "RHS", "", "-7/3", 1, false)
	f.Add("a b", "'MARKER'", "*", nines(40), nines(41), 3, true)
	plain, number := regexp.MustCompile(`\A[\x21-\x7e]{1,20}\z`), regexp.MustCompile(`\A(0|-?[1-9][0-9]*)(/[1-9][0-9]*)?\z`)
	isNumber := func(s string) bool {
		x, ok := new(big.Rat).SetString(s)
		return number.MatchString(s) && ok && x.RatString() == s && len(s) <= 40
	}
	f.Fuzz(func(t *testing.T, name, col, row, v, bound string, kind int, whole bool) {
		named := plain.MatchString(name) && plain.MatchString(col) && plain.MatchString(row)
		c := api.Core{Name: name, Obj: row, Rows: []api.Row{{Name: "q", Kind: kind, Coef: []api.Coef{{V: v}}, Rhs: v, Range: bound}}, Cols: []api.Col{{Name: col, Low: bound, Up: v, Cost: v, Int: whole}}}
		if core.May(c) == api.OK && isNumber(v) && (bound == "" || isNumber(bound)) {
			keeps(t, "any words", c)
		} else {
			refuses(t, "any words", c)
		}
		ps := []api.Period{{Col: col, Row: row, Name: name}}
		if text, ok := write.Time(name, ps); ok != named {
			t.Errorf("P11.1: Time(%q, %q): %v", name, ps, ok)
		} else if _, got, _, e := period.Get(text); ok && (e != api.OK || len(got) != 1 || got[0] != ps[0]) {
			t.Errorf("V1: Time(%q, %q): %q", name, ps, text)
		}
		named = plain.MatchString(name) && plain.MatchString(row) && (plain.MatchString(col) || col == "") && col != "RHS"
		each(v, func(what string, s api.Stoch) {
			s.Groups[0].Cases[1].Es[0].At, s.Groups[0].Cases[0].Es[0].At = api.Place{Col: col, Row: row}, api.Place{Col: col, Row: row}
			if stoch.May(s) == api.OK && named && isNumber(v) {
				keepsStoch(t, what, name, s)
			} else {
				refusesStoch(t, what, name, s)
			}
		})
	})
}
