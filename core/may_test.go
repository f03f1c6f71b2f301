package core_test

import (
	"fmt"
	"math"
	"reflect"
	"slices"
	"strings"
	"testing"

	"victualler/api"
	"victualler/core"
)

// good is a core that may be, of two rows and three columns.
func good() api.Core {
	return api.Core{Name: "T", Obj: "c",
		Rows: []api.Row{
			{Name: "r", Kind: api.RLess, Coef: []api.Coef{{Col: 0, V: "1"}, {Col: 2, V: "-1/2"}}, Rhs: "3", Range: "1"},
			{Name: "s", Kind: api.RMore, Coef: []api.Coef{{Col: 1, V: "7"}}, Rhs: "-3/7"},
		},
		Cols: []api.Col{{Name: "x", Low: "0", Cost: "1"}, {Name: "y", Low: "-5", Up: "5", Cost: "0", Int: true}, {Name: "z", Up: "2/3", Cost: "-9"}},
	}
}

// turn changes a core, and what May answers of it then.
type turn struct {
	what string
	do   func(c *api.Core)
	want api.Errno
}

// named tells the places of a core where a name stands.
func named() map[string]func(c *api.Core) *string {
	return map[string]func(c *api.Core) *string{
		"Name": func(c *api.Core) *string { return &c.Name }, "Obj": func(c *api.Core) *string { return &c.Obj },
		"first row": func(c *api.Core) *string { return &c.Rows[0].Name }, "last row": func(c *api.Core) *string { return &c.Rows[1].Name },
		"first column": func(c *api.Core) *string { return &c.Cols[0].Name }, "last column": func(c *api.Core) *string { return &c.Cols[2].Name },
	}
}

// numbers tells the places where a number stands; those of nothing may be "".
func numbers() (must, may map[string]func(c *api.Core) *string) {
	must = map[string]func(c *api.Core) *string{
		"first Coef": func(c *api.Core) *string { return &c.Rows[0].Coef[0].V }, "second Coef": func(c *api.Core) *string { return &c.Rows[0].Coef[1].V }, "last row's Coef": func(c *api.Core) *string { return &c.Rows[1].Coef[0].V },
		"first Rhs": func(c *api.Core) *string { return &c.Rows[0].Rhs }, "last Rhs": func(c *api.Core) *string { return &c.Rows[1].Rhs },
		"first Cost": func(c *api.Core) *string { return &c.Cols[0].Cost }, "last Cost": func(c *api.Core) *string { return &c.Cols[2].Cost },
	}
	may = map[string]func(c *api.Core) *string{
		"first Range": func(c *api.Core) *string { return &c.Rows[0].Range }, "last Range": func(c *api.Core) *string { return &c.Rows[1].Range },
		"first Low": func(c *api.Core) *string { return &c.Cols[0].Low }, "last Low": func(c *api.Core) *string { return &c.Cols[2].Low },
		"first Up": func(c *api.Core) *string { return &c.Cols[0].Up }, "last Up": func(c *api.Core) *string { return &c.Cols[2].Up },
	}
	return must, may
}

func nameTurns() []turn {
	var turns []turn
	for place, at := range named() {
		set := func(s string, want api.Errno) {
			turns = append(turns, turn{fmt.Sprintf("%s is %.30q", place, s), func(c *api.Core) { *at(c) = s }, want})
		}
		for _, s := range []string{"", " ", "a b", "a ", " a", "\t", "a\n", "a\x00", "a\x1f", "a\x7f", "\x80", "é", "a\xff", strings.Repeat("q", 21), strings.Repeat("q", 1<<20)} {
			set(s, api.ErrName)
		}
		for _, s := range []string{"!", "~", "*", "q", "N", "ROWS", "'INTORG'", "MARKER", "'marker'", "rhs", "RHS2", "1e30", strings.Repeat("q", 20)} {
			set(s, api.OK)
		}
		row, col := place == "Obj" || strings.HasSuffix(place, "row"), strings.HasSuffix(place, "column")
		set("'MARKER'", map[bool]api.Errno{row: api.ErrName, !row: api.OK}[true])
		set("RHS", map[bool]api.Errno{col: api.ErrName, !col: api.OK}[true])
		// Rows and columns, and the core's own name, have nothing to do with one another.
		set("T", api.OK)
		for _, other := range []string{"c", "r", "s"} {
			if old := *at(ptr(good())); row && other != old {
				set(other, api.ErrName)
			} else {
				set(other, api.OK)
			}
		}
		for _, other := range []string{"x", "y", "z"} {
			if old := *at(ptr(good())); col && other != old {
				set(other, api.ErrName)
			} else {
				set(other, api.OK)
			}
		}
	}
	return turns
}

func ptr(c api.Core) *api.Core { return &c }

func numberTurns() []turn {
	var turns []turn
	must, may := numbers()
	wrong := []string{"x", "+1", "1.5", "1.", ".5", "1e1", "1E30", "inf", "-inf", "2/4", "3/1", "0/1", "1/0", "-0", "00", "01", " 1", "1 ", "--1", "1/-2", "1/", "/1", "/", "-", "\x00", "１", strings.Repeat("9", 2001), "1/" + strings.Repeat("9", 2001), strings.Repeat("1", 1<<20)}
	right := []string{"1", "-1", "7/3", "-7/3", strings.Repeat("9", 2000), "-1/" + strings.Repeat("7", 2000)}
	for place, at := range must {
		set := func(s string, want api.Errno) {
			turns = append(turns, turn{fmt.Sprintf("%s is %.30q", place, s), func(c *api.Core) { *at(c) = s }, want})
		}
		for _, s := range append(wrong, "") {
			set(s, api.ErrForm)
		}
		for _, s := range right {
			set(s, api.OK)
		}
		set("0", map[bool]api.Errno{true: api.ErrForm, false: api.OK}[strings.Contains(place, "Coef")])
	}
	for place, at := range may {
		set := func(s string, want api.Errno) {
			turns = append(turns, turn{fmt.Sprintf("%s is %.30q", place, s), func(c *api.Core) { *at(c) = s }, want})
		}
		for _, s := range wrong {
			set(s, api.ErrForm)
		}
		for _, s := range append(right, "", "0") {
			set(s, api.OK)
		}
	}
	return turns
}

func coefs(cs ...api.Coef) func(c *api.Core) { return func(c *api.Core) { c.Rows[1].Coef = cs } }

func coefTurns() []turn {
	return []turn{
		{"no Coefs", coefs(), api.OK},
		{"all Coefs", coefs(api.Coef{Col: 0, V: "1"}, api.Coef{Col: 1, V: "1"}, api.Coef{Col: 2, V: "1"}), api.OK},
		{"the last column", coefs(api.Coef{Col: 2, V: "1"}), api.OK},
		{"one beyond", coefs(api.Coef{Col: 3, V: "1"}), api.ErrForm},
		{"one behind, beyond", coefs(api.Coef{Col: 0, V: "1"}, api.Coef{Col: 3, V: "1"}), api.ErrForm},
		{"far beyond", coefs(api.Coef{Col: math.MaxInt, V: "1"}), api.ErrForm},
		{"below", coefs(api.Coef{Col: -1, V: "1"}), api.ErrForm},
		{"far below", coefs(api.Coef{Col: math.MinInt, V: "1"}), api.ErrForm},
		{"one column twice", coefs(api.Coef{Col: 1, V: "1"}, api.Coef{Col: 1, V: "2"}), api.ErrForm},
		{"falling", coefs(api.Coef{Col: 1, V: "1"}, api.Coef{Col: 0, V: "2"}), api.ErrForm},
		{"rising, falling", coefs(api.Coef{Col: 0, V: "1"}, api.Coef{Col: 2, V: "2"}, api.Coef{Col: 1, V: "2"}), api.ErrForm},
		{"the last one is 0", coefs(api.Coef{Col: 0, V: "1"}, api.Coef{Col: 2, V: "0"}), api.ErrForm},
		{"no columns", func(c *api.Core) { c.Cols = nil }, api.ErrForm},
		{"no columns, no rows", func(c *api.Core) { c.Rows, c.Cols = nil, nil }, api.OK},
		{"no columns, no rows, empty", func(c *api.Core) { c.Rows, c.Cols = []api.Row{}, []api.Col{} }, api.OK},
		{"no rows", func(c *api.Core) { c.Rows = nil }, api.OK},
		{"many Coefs", func(c *api.Core) { c.Rows[0].Coef = make([]api.Coef, 1<<20) }, api.ErrForm},
		{"Low above Up", func(c *api.Core) { c.Cols[1].Low, c.Cols[1].Up = "8", "-8" }, api.OK},
		{"halves of an Int column", func(c *api.Core) { c.Cols[1].Low, c.Cols[1].Up = "-1/2", "1/2" }, api.OK},
		{"a Range below 0", func(c *api.Core) { c.Rows[1].Range = "-4" }, api.OK},
	}
}

func kindTurns() []turn {
	var turns []turn
	for _, row := range []int{0, 1} {
		for kind, want := range map[int]api.Errno{1: api.OK, 2: api.OK, 3: api.OK, 0: api.ErrKind, 4: api.ErrKind, -1: api.ErrKind, 5: api.ErrKind, math.MaxInt: api.ErrKind, math.MinInt: api.ErrKind, 1 << 32: api.ErrKind, 1<<32 + 1: api.ErrKind} {
			turns = append(turns, turn{fmt.Sprintf("row %d is of Kind %d", row, kind), func(c *api.Core) { c.Rows[row].Kind = kind }, want})
		}
	}
	return turns
}

// rowsMore puts rows behind, up to n; so does colsMore with columns.
func rowsMore(n int) func(c *api.Core) {
	return func(c *api.Core) {
		for len(c.Rows) < n {
			c.Rows = append(c.Rows, api.Row{Name: fmt.Sprint("row", len(c.Rows)), Kind: api.REqual, Rhs: "0"})
		}
	}
}

func colsMore(n int) func(c *api.Core) {
	return func(c *api.Core) {
		for len(c.Cols) < n {
			c.Cols = append(c.Cols, api.Col{Name: fmt.Sprint("col", len(c.Cols)), Cost: "0"})
		}
	}
}

func limitTurns() []turn {
	return []turn{
		{"40 rows", rowsMore(40), api.OK}, {"41 rows", rowsMore(41), api.ErrLimit}, {"a thousand rows", rowsMore(1000), api.ErrLimit}, {"many rows", rowsMore(1 << 18), api.ErrLimit},
		{"40 columns", colsMore(40), api.OK}, {"41 columns", colsMore(41), api.ErrLimit}, {"a thousand columns", colsMore(1000), api.ErrLimit}, {"many columns", colsMore(1 << 18), api.ErrLimit},
		{"40 rows, 40 columns", func(c *api.Core) { rowsMore(40)(c); colsMore(40)(c) }, api.OK},
	}
}

func TestMay(t *testing.T) {
	for _, x := range slices.Concat([]turn{{"as it is", func(*api.Core) {}, api.OK}}, nameTurns(), limitTurns(), kindTurns(), numberTurns(), coefTurns()) {
		c := good()
		x.do(&c)
		if e := core.May(c); e != x.want {
			t.Errorf("P8.1: %s: May is %d, not %d", x.what, e, x.want)
		}
	}
	for what, c := range map[string]api.Core{"the zero core": {}, "nameless rows": {Name: "T", Obj: "c", Rows: make([]api.Row, 3)}, "nameless columns": {Name: "T", Obj: "c", Cols: make([]api.Col, 3)}, "very many rows": {Name: "T", Obj: "c", Rows: make([]api.Row, 1<<20)}} {
		if e := core.May(c); e != api.ErrName {
			t.Errorf("P8.1: May of %s is %d", what, e)
		}
	}
	if e := core.May(api.Core{Name: "T", Obj: "c"}); e != api.OK {
		t.Errorf("P8.1: May of names alone is %d", e)
	}
}

// Of any two wrongs the one counts that the sentence names first.
func TestMaysFirstError(t *testing.T) {
	names := []turn{
		{"Name", func(c *api.Core) { c.Name = "" }, api.ErrName}, {"Obj", func(c *api.Core) { c.Obj = "'MARKER'" }, api.ErrName}, {"a row's name", func(c *api.Core) { c.Rows[1].Name = "r" }, api.ErrName},
		{"a column's name", func(c *api.Core) { c.Cols[2].Name = "RHS" }, api.ErrName}, {"the last row's name", func(c *api.Core) { c.Rows[len(c.Rows)-1].Name = "c" }, api.ErrName}, {"the last column's name", func(c *api.Core) { c.Cols[len(c.Cols)-1].Name = " " }, api.ErrName},
	}
	limits := []turn{{"41 rows", rowsMore(41), api.ErrLimit}, {"41 columns", colsMore(41), api.ErrLimit}}
	kinds := []turn{{"the first Kind", func(c *api.Core) { c.Rows[0].Kind = 0 }, api.ErrKind}, {"the last Kind", func(c *api.Core) { c.Rows[len(c.Rows)-1].Kind = 4 }, api.ErrKind}}
	forms := []turn{
		{"a Coef", func(c *api.Core) { c.Rows[0].Coef[0].V = "0" }, api.ErrForm}, {"a Coef's column", func(c *api.Core) { c.Rows[0].Coef[0].Col = -1 }, api.ErrForm}, {"a Rhs", func(c *api.Core) { c.Rows[0].Rhs = "" }, api.ErrForm}, {"a Range", func(c *api.Core) { c.Rows[0].Range = "x" }, api.ErrForm},
		{"a Low", func(c *api.Core) { c.Cols[0].Low = "x" }, api.ErrForm}, {"an Up", func(c *api.Core) { c.Cols[0].Up = "x" }, api.ErrForm}, {"a Cost", func(c *api.Core) { c.Cols[0].Cost = "" }, api.ErrForm},
	}
	order := [][]turn{limits, names, kinds, forms}
	rank := []int{1, 0, 2, 3}
	for i, first := range order {
		for k, second := range order {
			for _, a := range first {
				for _, b := range second {
					c := good()
					a.do(&c)
					b.do(&c)
					want := a.want
					if rank[k] < rank[i] {
						want = b.want
					}
					if e := core.May(c); e != want {
						t.Errorf("P8.1: %s, then %s: May is %d, not %d", a.what, b.what, e, want)
					}
				}
			}
		}
	}
}

// bare is a copy of c in which lists without elements are nil.
func bare(c api.Core) api.Core {
	c.Rows, c.Cols = append([]api.Row(nil), c.Rows...), append([]api.Col(nil), c.Cols...)
	for k := range c.Rows {
		c.Rows[k].Coef = append([]api.Coef(nil), c.Rows[k].Coef...)
	}
	return c
}

// same tells whether two cores are alike, nil lists like empty ones.
func same(a, b api.Core) bool { return reflect.DeepEqual(bare(a), bare(b)) }

func TestEq(t *testing.T) {
	turns := slices.Concat(nameTurns(), limitTurns(), kindTurns(), numberTurns(), coefTurns(), []turn{
		{"not Int", func(c *api.Core) { c.Cols[1].Int = false }, 0}, {"Int", func(c *api.Core) { c.Cols[2].Int = true }, 0}, {"rows the other way", func(c *api.Core) { slices.Reverse(c.Rows) }, 0}, {"columns the other way", func(c *api.Core) { slices.Reverse(c.Cols) }, 0},
		{"a row less", func(c *api.Core) { c.Rows = c.Rows[:1] }, 0}, {"a column less", func(c *api.Core) { c.Cols = c.Cols[:2] }, 0}, {"a Coef less", func(c *api.Core) { c.Rows[0].Coef = c.Rows[0].Coef[:1] }, 0}, {"another Coef's column", func(c *api.Core) { c.Rows[0].Coef[1].Col = 1 }, 0},
		{"Low and Up the other way", func(c *api.Core) { c.Cols[1].Low, c.Cols[1].Up = c.Cols[1].Up, c.Cols[1].Low }, 0}, {"Rhs and Range the other way", func(c *api.Core) { c.Rows[0].Rhs, c.Rows[0].Range = c.Rows[0].Range, c.Rows[0].Rhs }, 0}, {"Name and Obj the other way", func(c *api.Core) { c.Name, c.Obj = c.Obj, c.Name }, 0},
		{"a row and a column trade names", func(c *api.Core) { c.Rows[0].Name, c.Cols[0].Name = c.Cols[0].Name, c.Rows[0].Name }, 0}, {"a Coef of the same worth", func(c *api.Core) { c.Rows[0].Coef[1].V = "-2/4" }, 0}, {"a Rhs of the same worth", func(c *api.Core) { c.Rows[0].Rhs = "3/1" }, 0},
	})
	for _, x := range turns {
		a, b := good(), good()
		x.do(&a)
		x.do(&b)
		if !core.Eq(a, a) || !core.Eq(a, b) || !core.Eq(b, a) {
			t.Errorf("P8.1: %s: Eq of the same is false", x.what)
		}
		want := same(a, good())
		if core.Eq(a, good()) != want || core.Eq(good(), a) != want || core.Eq(a, api.Core{}) || core.Eq(api.Core{}, a) {
			t.Errorf("P8.1: %s: Eq is not %v", x.what, want)
		}
	}
}

func TestEqOfNoLists(t *testing.T) {
	row := func(cs []api.Coef) api.Core { return api.Core{Rows: []api.Row{{Name: "r", Coef: cs}}} }
	for _, pair := range [][2]api.Core{
		{{}, {}}, {{Rows: []api.Row{}}, {}}, {{Cols: []api.Col{}}, {}}, {{Rows: []api.Row{}, Cols: []api.Col{}}, {Rows: make([]api.Row, 0, 5)}}, {row(nil), row([]api.Coef{})},
	} {
		if !core.Eq(pair[0], pair[1]) || !core.Eq(pair[1], pair[0]) {
			t.Errorf("P8.1: Eq(%v, %v) is false", pair[0], pair[1])
		}
	}
	for _, pair := range [][2]api.Core{
		{{Rows: []api.Row{{}}}, {}}, {{Cols: []api.Col{{}}}, {}}, {row(nil), row([]api.Coef{{}})}, {{Rows: make([]api.Row, 2)}, {Rows: make([]api.Row, 3)}}, {{Cols: make([]api.Col, 2)}, {Cols: make([]api.Col, 3)}}, {{Name: "a"}, {Obj: "a"}},
	} {
		if core.Eq(pair[0], pair[1]) || core.Eq(pair[1], pair[0]) {
			t.Errorf("P8.1: Eq(%v, %v) is true", pair[0], pair[1])
		}
	}
}

// roomy is c with spare room in all its lists.
func roomy(c api.Core) api.Core {
	c.Rows, c.Cols = slices.Grow(slices.Clone(c.Rows), 9), slices.Grow(slices.Clone(c.Cols), 9)
	for k := range c.Rows {
		c.Rows[k].Coef = slices.Grow(slices.Clone(c.Rows[k].Coef), 9)
	}
	return c
}

// full is a copy of c with lists as long as their room.
func full(c api.Core) api.Core {
	c.Rows, c.Cols = slices.Clone(c.Rows[:cap(c.Rows)]), slices.Clone(c.Cols[:cap(c.Cols)])
	for k, row := range c.Rows {
		c.Rows[k].Coef = slices.Clone(row.Coef[:cap(row.Coef)])
	}
	return c
}

func TestMayAndEqChangeNothing(t *testing.T) {
	for _, x := range slices.Concat(nameTurns(), kindTurns(), numberTurns(), coefTurns()) {
		a, b := roomy(good()), good()
		x.do(&a)
		x.do(&b)
		before := full(a)
		may, eq := core.May(a), core.Eq(a, b)
		if core.May(a) != may || core.Eq(a, b) != eq || !eq {
			t.Errorf("P0.5: %s: May or Eq answers otherwise when asked again", x.what)
		}
		if !reflect.DeepEqual(full(a), before) || !same(a, b) {
			t.Errorf("P0.3: %s: May or Eq changes its argument", x.what)
		}
	}
}
