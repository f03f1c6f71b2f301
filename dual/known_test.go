package dual_test

import (
	"fmt"
	"math"
	"reflect"
	"strconv"
	"strings"
	"testing"

	"victualler/api"
	"victualler/dual"
	"victualler/simplex"
)

// step is a row, or, where its text has a colon, a column's bounds.
type step struct {
	text   string
	status int
	value  string
}

func (x *asked) step(text string) {
	x.Helper()
	ok := false
	if col, ends, bounds := strings.Cut(text, ":"); bounds {
		k, _ := strconv.Atoi(col)
		w := strings.Fields(ends)
		ok = x.bounds(k, strings.TrimSuffix(w[0], "-"), strings.TrimSuffix(w[1], "-"))
	} else {
		ok = x.row(row(text))
	}
	if !ok {
		x.Fatalf("P17.1: %s: no to %q", x.what, text)
	}
}

func TestKnown(t *testing.T) {
	for k, x := range []struct {
		l     api.LP
		first step
		steps []step
	}{
		{cols("2 0 2,3 0 -", "1 1 > 3"), step{"", best, "7"}, []step{
			{"0 1 < 3/2", best, "7"}, {"0: 0 3/2", best, "15/2"}, {"0: 0 1", none, ""}, {"0: -5 -", best, "6"}, {"1: 1 1", best, "7"}, {"1 0 > 7", best, "17"}, {"1: - 1", free, ""}, {"1: -4 4", best, "2"},
		}},
		// Rows alone.
		{cols(""), step{"", best, "0"}, []step{{"< 0", best, "0"}, {"= 0", best, "0"}, {"> -1/2", best, "0"}, {"> 1/2", none, ""}, {"< 0", none, ""}, {"< -1", none, ""}}},
		// Bounds alone, of each kind, from and to each Status.
		{cols("1 - -"), step{"", free, ""}, []step{
			{"0: 2 -", best, "2"}, {"0: - 2", free, ""}, {"0: 1/2 2/3", best, "1/2"}, {"0: 3 3", best, "3"}, {"0: -7 -7", best, "-7"}, {"0: - -", free, ""}, {"0: - -", free, ""}, {"0: 0 -", best, "0"}, {"0: 0 -", best, "0"},
		}},
		{cols("-1 0 5"), step{"", best, "-5"}, []step{{"0: 0 7/3", best, "-7/3"}, {"0: 0 -", free, ""}, {"0: - 9", best, "-9"}, {"0: 10 11", best, "-11"}, {"0: -1 -1/9", best, "1/9"}}},
		{cols("0 - -"), step{"", best, "0"}, []step{{"0: 3 4", best, "0"}, {"1 < 2", none, ""}, {"0: 0 1", best, "0"}, {"0: - -", best, "0"}, {"1 > 3", none, ""}}},
		// A row that is met already, one that is not, one that leaves a point, one too many.
		{cols("-1 0 -,-1 0 -", "3 2 < 6", "2 5 < 10"), step{"", best, "-28/11"}, []step{
			{"1 1 < 3", best, "-28/11"}, {"1 1 < 2", best, "-2"}, {"1 0 = 1/2", best, "-2"}, {"0 1 < 1", best, "-3/2"}, {"2 -1 = 0", best, "-3/2"}, {"0 1 > 1", best, "-3/2"}, {"1 1 > 8/5", none, ""}, {"1 1 > 0", none, ""},
		}},
		// What goes below all is held by rows, by bounds, and let go again.
		{cols("-1 0 -,0 0 -", "1 -1 < 3"), step{"", free, ""}, []step{{"0 1 < 4", best, "-7"}, {"1: 0 1", best, "-4"}, {"1: 0 -", best, "-7"}, {"0: 8 -", none, ""}, {"0: 7 -", best, "-7"}, {"1: 5 -", none, ""}, {"1: - 2", none, ""}, {"0: - 2", best, "-2"}}},
		// Nothing fits, and bounds alone help.
		{cols("1 0 1,1 0 1", "1 1 > 5"), step{"", none, ""}, []step{{"0: 0 2", none, ""}, {"1: 0 4", best, "5"}, {"1: 0 -", best, "5"}, {"0: -9 -9", best, "5"}, {"0: - -", best, "5"}, {"1 1 < 5", best, "5"}, {"1 1 = 4", none, ""}, {"0: -9 9", none, ""}}},
		// Rows that say the same.
		{cols("1 - -,1 - -", "1 1 = 2"), step{"", best, "2"}, []step{{"2 2 = 4", best, "2"}, {"1 1 > 2", best, "2"}, {"1 1 < 2", best, "2"}, {"-1/3 -1/3 = -2/3", best, "2"}, {"0: 5 -", best, "2"}, {"1: -3 -3", best, "2"}, {"1: -2 -", none, ""}, {"1 1 = 3", none, ""}, {"1: - -", none, ""}}},
		// Beale's, where steps that lead nowhere go round, with and without its last row.
		{cols("-3/4 0 -,150 0 -,-1/50 0 -,6 0 -", "1/4 -60 -1/25 9 < 0", "1/2 -90 -1/50 3 < 0"), step{"", free, ""}, []step{{"0 0 1 0 < 1", best, "-1/20"}, {"2: 0 2", best, "-1/20"}, {"2: 0 1/2", best, "-1/40"}, {"0: 1/100 -", best, "-1/40"}, {"2: 0 0", best, "1/1200"}}},
	} {
		x2 := begin(t, fmt.Sprint("known ", k), x.l)
		x2.is(x.first.status, x.first.value)
		for _, s := range x.steps {
			x2.step(s.text)
			x2.is(s.status, s.value)
		}
	}
}

// good is a program that may be.
func good() api.LP {
	return cols("1 0 -,-2/3 - 4,0 -1 1", "1 1 0 < 3", "0 2 -1/2 > 1", "1 1 1 = 2")
}

// wrongTexts are no numbers of frac; "" is one of a bound that is none.
var wrongTexts = []string{"", "x", " 1", "1 ", "+1", "01", "-0", "2/4", "1/1", "1/0", "0.5", "1e3", "--1", "1/-2", "\x00", strings.Repeat("9", 2001), "1/" + strings.Repeat("7", 2001)}

// wrongRows may be in no program of good's columns.
func wrongRows() (list []api.Row) {
	add := func(spoil func(r *api.Row)) {
		r := row("1 2 3 > 4")
		spoil(&r)
		list = append(list, r)
	}
	list = append(list, api.Row{})
	for _, s := range wrongTexts {
		add(func(r *api.Row) { r.Rhs = s })
		for k := range 3 {
			add(func(r *api.Row) { r.Coef[k].V = s })
		}
	}
	for _, n := range []int{math.MinInt, -1, 0, 4, math.MaxInt} {
		add(func(r *api.Row) { r.Kind = n })
	}
	for k := range 3 {
		for _, n := range []int{math.MinInt, -1, 3, 100, math.MaxInt} {
			add(func(r *api.Row) { r.Coef[k].Col = n })
		}
		add(func(r *api.Row) { r.Coef[k].V = "0" })
		add(func(r *api.Row) { r.Coef[k].Col = r.Coef[(k+1)%3].Col })
	}
	add(func(r *api.Row) { r.Coef[0], r.Coef[1] = r.Coef[1], r.Coef[0] })
	add(func(r *api.Row) { r.Coef = append(r.Coef, api.Coef{Col: 3, V: "1"}) })
	for _, s := range []string{"1", "0", "x"} {
		add(func(r *api.Row) { r.Range = s })
	}
	return list
}

// What would be may not be: zero, false, and nothing changes; what is asked then is
// as if nothing had been.
func TestWhatMayNotBe(t *testing.T) {
	x, y := begin(t, "good", good()), begin(t, "good", good())
	unmoved := func(what any) {
		t.Helper()
		if !same(x.s.LP(), y.s.LP()) {
			t.Errorf("P17.1: %v changed the program", what)
		}
	}
	for round, text := range []string{"0: 0 5", "1 0 0 > 1", "1: -3 4", "0 0 1 > 2", "2: -1 3"} {
		for k, r := range wrongRows() {
			if x.row(r) {
				t.Errorf("P17.1: wrong row %d: %s is taken", k, brief(r))
			}
			unmoved(k)
		}
		for k := range 3 {
			for _, s := range wrongTexts[1:] {
				if x.bounds(k, s, "") || x.bounds(k, "", s) || x.bounds(k, s, s) {
					t.Errorf("P17.1: bounds %.20q of column %d are taken", s, k)
				}
			}
			if x.bounds(k, "1", "1/2") || x.bounds(k, "1/3", "-1/2") || x.bounds(k, "0", "-1/"+strings.Repeat("7", 2000)) {
				t.Errorf("P17.1: of column %d a low above its up is taken", k)
			}
			unmoved(k)
		}
		for _, k := range []int{math.MinInt, -2, -1, 3, 4, 100, math.MaxInt} {
			if x.bounds(k, "", "") || x.bounds(k, "0", "1") {
				t.Errorf("P17.1: bounds of column %d are taken", k)
			}
		}
		x.step(text)
		y.step(text)
		if !reflect.DeepEqual(x.a, y.a) {
			t.Errorf("P17.1, %d: behind what may not be it is %v, not %v", round, x.a, y.a)
		}
	}
}

// New says no to what simplex.Solve says no to.
func TestNewOfWhatMayNotBe(t *testing.T) {
	var wrongs []api.LP
	for _, r := range wrongRows() {
		l := good()
		l.Rows[1] = r
		wrongs = append(wrongs, l)
	}
	for k := range 3 {
		for _, s := range wrongTexts {
			l, m, n := good(), good(), good()
			l.Cols[k].Cost, m.Cols[k].Low, n.Cols[k].Up = s, s, s
			wrongs = append(wrongs, l)
			if s != "" {
				wrongs = append(wrongs, m, n)
			}
		}
		l := good()
		l.Cols[k].Low, l.Cols[k].Up = "1", "0"
		wrongs = append(wrongs, l)
	}
	for k, l := range wrongs {
		if s, a, ok := dual.New(l); s != nil || ok || !reflect.DeepEqual(a, api.Answer{}) {
			t.Errorf("P17.1: wrong program %d: %s is taken", k, brief(l))
		}
	}
}

// Names and Ints are kept, and count for nothing.
func TestWhatCountsForNothing(t *testing.T) {
	d := dice(1)
	for range 100 {
		l := d.program(1+d.below(4), d.below(4))
		m := api.LP{Cols: append([]api.Col{}, l.Cols...), Rows: append([]api.Row{}, l.Rows...)}
		for k := range m.Cols {
			m.Cols[k].Name, m.Cols[k].Int = "the same \x00\xff", d.below(2) == 0
		}
		for k := range m.Rows {
			m.Rows[k].Name = strings.Repeat("long ", 99)
		}
		x, y := begin(t, "no names", l), begin(t, "names", m)
		for range 4 {
			r := d.row(len(l.Cols))
			x.row(r)
			r.Name = "row"
			y.row(r)
			k := d.below(len(l.Cols))
			low, up := d.ends()
			x.bounds(k, low, up)
			y.bounds(k, low, up)
			if !reflect.DeepEqual(x.a, y.a) {
				t.Fatalf("P17.1: with names and Ints it is %v, not %v", y.a, x.a)
			}
		}
	}
	half := cols("1 0 1", "3 > 1")
	half.Cols[0].Int = true
	x := begin(t, "an Int", half)
	x.is(best, "1/3")
	x.step("3 < 2")
	x.is(best, "1/3")
	x.step("0: 1/2 1")
	x.is(best, "1/2")
}

// What New tells is what simplex.Solve does.
func TestNew(t *testing.T) {
	d := dice(2)
	for range 500 {
		l := d.program(d.below(5), d.below(5))
		x := begin(t, "thrown", l)
		if want, _ := simplex.Solve(l); !reflect.DeepEqual(x.a, want) {
			t.Errorf("P17.1: New is %v, not %v", x.a, want)
		}
	}
}

func TestNilAndEmpty(t *testing.T) {
	var s *dual.State
	for _, r := range []api.Row{{}, {Kind: api.RLess, Rhs: "0"}, {Kind: api.RMore, Rhs: "1"}} {
		if a, ok := s.Row(r); ok || !reflect.DeepEqual(a, api.Answer{}) {
			t.Errorf("P17.1: nil's Row is %v, %v", a, ok)
		}
	}
	for _, k := range []int{math.MinInt, -1, 0, 1, math.MaxInt} {
		if a, ok := s.Bounds(k, "0", "1"); ok || !reflect.DeepEqual(a, api.Answer{}) {
			t.Errorf("P17.1: nil's Bounds is %v, %v", a, ok)
		}
	}
	if !reflect.DeepEqual(s.LP(), api.LP{}) || s.Copy() != nil {
		t.Errorf("P17.1: nil's LP is %v, its Copy %v", s.LP(), s.Copy())
	}
	// One that New did not make ends, too.
	for _, x := range []*asked{{t, "empty", &dual.State{}, api.LP{}, api.Answer{}}, {t, "empty", (&dual.State{}).Copy(), api.LP{}, api.Answer{}}} {
		x.bounds(0, "", "")
		x.row(row("1 > 0"))
		x.step("> -1")
		x.is(best, "0")
		x.step("> 1")
		x.is(none, "")
	}
}
