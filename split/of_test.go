package split_test

import (
	"fmt"
	"math"
	"reflect"
	"slices"
	"strings"
	"testing"

	"victualler/api"
	"victualler/core"
	"victualler/period"
	"victualler/split"
)

const (
	name20 = "a23456789b123456789c"  // the longest Name
	long   = "a23456789b123456789c1" // no Name
)

// good has the columns a, b ahead of x, y, z, and the rows cap, mix ahead of
// need, link, own, bare.
func good() api.Core {
	return api.Core{Name: "T", Obj: "cost", Rows: []api.Row{
		{Name: "cap", Kind: api.RLess, Coef: coefs(0, "1", 1, "2"), Rhs: "9"},
		{Name: "mix", Kind: api.REqual, Coef: coefs(1, "1/3"), Rhs: "0"},
		{Name: "need", Kind: api.RMore, Coef: coefs(0, "3", 2, "4", 3, "5"), Rhs: "1"},
		{Name: "link", Kind: api.REqual, Coef: coefs(3, "1", 4, "-2"), Rhs: "-7/2"},
		{Name: "own", Kind: api.RLess, Coef: coefs(0, "-1", 1, "6"), Rhs: "8"},
		{Name: "bare", Kind: api.RMore, Rhs: "0"},
	}, Cols: []api.Col{
		{Name: "a", Low: "0", Up: "5", Cost: "1", Int: true},
		{Name: "b", Low: "-1", Up: "1", Cost: "2"},
		{Name: "x", Low: "0", Cost: "3"},
		{Name: "y", Cost: "4"},
		{Name: "z", Low: "-7/2", Up: "8", Cost: "-1/2"},
	}}
}

// goodTwo is good, parted at x and need.
func goodTwo() api.Two {
	return api.Two{
		First: api.LP{Cols: []api.Col{
			{Name: "a", Low: "0", Up: "5", Cost: "1", Int: true},
			{Name: "b", Low: "-1", Up: "1", Cost: "2"},
		}, Rows: []api.Row{
			{Name: "cap", Kind: api.RLess, Coef: coefs(0, "1", 1, "2"), Rhs: "9"},
			{Name: "mix", Kind: api.REqual, Coef: coefs(1, "1/3"), Rhs: "0"},
		}},
		Second: api.LP{Cols: []api.Col{
			{Name: "x", Low: "0", Cost: "3"},
			{Name: "y", Cost: "4"},
			{Name: "z", Low: "-7/2", Up: "8", Cost: "-1/2"},
		}, Rows: []api.Row{
			{Name: "need", Kind: api.RMore, Coef: coefs(0, "4", 1, "5"), Rhs: "1"},
			{Name: "link", Kind: api.REqual, Coef: coefs(1, "1", 2, "-2"), Rhs: "-7/2"},
			{Name: "own", Kind: api.RLess, Rhs: "8"},
			{Name: "bare", Kind: api.RMore, Rhs: "0"},
		}},
		Tech: [][]api.Coef{coefs(0, "3"), nil, coefs(0, "-1", 1, "6"), nil},
	}
}

// coefs are of pairs of a column and a text.
func coefs(pairs ...any) []api.Coef {
	var cs []api.Coef
	for pair := range slices.Chunk(pairs, 2) {
		cs = append(cs, api.Coef{Col: pair[0].(int), V: pair[1].(string)})
	}
	return cs
}

// at are two periods, of which the second one begins at a column and a row.
func at(col, row string) []api.Period {
	return []api.Period{{Col: "a", Row: "cost", Name: "now"}, {Col: col, Row: row, Name: "then"}}
}

func halves() []api.Period { return at("x", "need") }

// plain has nil for lists that are empty.
func plain(two api.Two) api.Two {
	return api.Two{First: plainLP(two.First), Second: plainLP(two.Second), Tech: plainLists(two.Tech)}
}

func plainLP(l api.LP) api.LP {
	rows := append([]api.Row(nil), l.Rows...)
	for k := range rows {
		rows[k].Coef = append([]api.Coef(nil), rows[k].Coef...)
	}
	return api.LP{Cols: append([]api.Col(nil), l.Cols...), Rows: rows}
}

func plainLists(lists [][]api.Coef) [][]api.Coef {
	var all [][]api.Coef
	for _, list := range lists {
		all = append(all, append([]api.Coef(nil), list...))
	}
	return all
}

// parts holds that c is parted as is wanted.
func parts(t *testing.T, what string, c api.Core, ps []api.Period, want api.Two) {
	t.Helper()
	got, e := split.Of(c, ps)
	if e != api.OK || !reflect.DeepEqual(plain(got), plain(want)) {
		t.Errorf("P12.1: Of of %s: error %d, %.3000v, not %.3000v", what, e, got, want)
	}
}

// refuses holds that Of answers an error alone.
func refuses(t *testing.T, what string, c api.Core, ps []api.Period, want api.Errno) {
	t.Helper()
	if got, e := split.Of(c, ps); e != want || !reflect.DeepEqual(got, api.Two{}) {
		t.Errorf("P12.1: Of of %s: error %d, not %d: %.300v", what, e, want, fmt.Sprint(got))
	}
}

// answers holds Of's error alone.
func answers(t *testing.T, what string, c api.Core, ps []api.Period, want api.Errno) {
	t.Helper()
	if want != api.OK {
		refuses(t, what, c, ps, want)
	} else if _, e := split.Of(c, ps); e != api.OK {
		t.Errorf("P12.1: Of of %s: error %d", what, e)
	}
}

func TestOf(t *testing.T) {
	parts(t, "a core", good(), halves(), goodTwo())
	ps := halves()
	ps[0].Row = "cap"
	parts(t, "a first period at the first row", good(), ps, goodTwo())
	ps[0].Name, ps[1].Name = "", "\x00"
	parts(t, "periods of other names", good(), ps, goodTwo())
	c := good()
	c.Name, c.Obj = name20, "x"
	ps[0].Row = "x"
	parts(t, "a core of other names", c, ps, goodTwo())
	parts(t, "the least core", api.Core{Name: "T", Obj: "cost", Rows: []api.Row{{Name: "r", Kind: api.REqual, Rhs: "0"}}, Cols: []api.Col{{Name: "a", Low: "0", Up: "0", Cost: "0"}, {Name: "b", Cost: "0"}}}, at("b", "r"), api.Two{
		First: api.LP{Cols: []api.Col{{Name: "a", Low: "0", Up: "0", Cost: "0"}}},
		Second: api.LP{Cols: []api.Col{{Name: "b", Cost: "0"}},
			Rows: []api.Row{{Name: "r", Kind: api.REqual, Rhs: "0"}}},
		Tech: [][]api.Coef{nil},
	})
}

// Wherever the second stage begins, what is ahead is of the first one.
func TestOfAtAllPlaces(t *testing.T) {
	c := good()
	for k := range c.Cols {
		c.Cols[k].Low, c.Cols[k].Up, c.Cols[k].Int = "0", "9", false
	}
	for col := range c.Cols {
		for row := range c.Rows {
			c := c
			c.Rows = slices.Clone(c.Rows)
			// A row has the columns that it may have ahead of row, all from there on.
			for k := range c.Rows {
				c.Rows[k].Coef = nil
				for i := range c.Cols {
					if k >= row || i < col {
						c.Rows[k].Coef = append(c.Rows[k].Coef, api.Coef{Col: i, V: fmt.Sprint(10*k + i + 1)})
					}
				}
			}
			ps := at(c.Cols[col].Name, c.Rows[row].Name)
			if col == 0 {
				refuses(t, "no first column", c, ps, api.ErrOrder)
				continue
			}
			var want api.Two
			want.First.Cols, want.Second.Cols = c.Cols[:col], c.Cols[col:]
			want.First.Rows = c.Rows[:row]
			for _, r := range slices.Clone(c.Rows[row:]) {
				want.Tech = append(want.Tech, r.Coef[:col])
				r.Coef = slices.Clone(r.Coef[col:])
				for i := range r.Coef {
					r.Coef[i].Col = i
				}
				want.Second.Rows = append(want.Second.Rows, r)
			}
			parts(t, fmt.Sprint("column ", col, ", row ", row), c, ps, want)
		}
	}
}

// fault makes a core or its periods wrong.
type fault struct {
	what string
	turn func(c *api.Core, ps *[]api.Period)
	want api.Errno
}

// sharedFaults stand ahead of each call's own, in this order.
func sharedFaults() []fault {
	return []fault{
		{"no name", func(c *api.Core, _ *[]api.Period) { c.Name = "" }, api.ErrName},
		{"41 rows", func(c *api.Core, _ *[]api.Period) { add(c, 0, 35) }, api.ErrLimit},
		{"a wrong Kind", func(c *api.Core, _ *[]api.Period) { c.Rows[5].Kind = 4 }, api.ErrKind},
		{"a wrong text", func(c *api.Core, _ *[]api.Period) { c.Rows[5].Rhs = "1.5" }, api.ErrForm},
		{"one period", func(_ *api.Core, ps *[]api.Period) { *ps = (*ps)[:1] }, api.ErrForm},
		{"three periods", func(_ *api.Core, ps *[]api.Period) { *ps = append(*ps, (*ps)[1]) }, api.ErrKind},
		{"periods of one name", func(_ *api.Core, ps *[]api.Period) { (*ps)[1].Name = "now" }, api.ErrName},
		{"a first period that is not first", func(_ *api.Core, ps *[]api.Period) { (*ps)[0].Col = "b" }, api.ErrOrder},
	}
}

// ownFaults are Of's, in this order.
func ownFaults() []fault {
	return []fault{
		{"a first row with a second column", func(c *api.Core, _ *[]api.Period) { c.Rows[1].Coef = coefs(1, "1", 4, "1") }, api.ErrOrder},
		{"a second column that is Int", func(c *api.Core, _ *[]api.Period) { c.Cols[3].Int = true }, api.ErrKind},
		{"a first column without Up", func(c *api.Core, _ *[]api.Period) { c.Cols[1].Up = "" }, api.ErrBound},
		{"a second column whose bounds cross", func(c *api.Core, _ *[]api.Period) { c.Cols[4].Up = "-4" }, api.ErrBound},
		{"21 columns", func(c *api.Core, _ *[]api.Period) { add(c, 18, 0) }, api.ErrLimit},
		{"21 rows", func(c *api.Core, _ *[]api.Period) { add(c, 0, 17) }, api.ErrLimit},
	}
}

// add adds columns and rows behind all.
func add(c *api.Core, cols, rows int) {
	for range cols {
		c.Cols = append(c.Cols, api.Col{Name: fmt.Sprint("x", len(c.Cols)), Cost: "0"})
	}
	for range rows {
		c.Rows = append(c.Rows, api.Row{Name: fmt.Sprint("r", len(c.Rows)), Kind: api.RLess, Rhs: "0"})
	}
}

// some makes the faults that bits name, the last one first: so none lies in
// another one's way.
func some(faults []fault, bits int) (what string, c api.Core, ps []api.Period) {
	c, ps = good(), halves()
	for k, f := range slices.Backward(faults) {
		if bits>>k&1 == 1 {
			f.turn(&c, &ps)
			what = f.what + ", " + what
		}
	}
	return what, c, ps
}

// Of any faults at once the first one's error counts.
func TestOfWithAllFaults(t *testing.T) {
	faults := append(sharedFaults(), ownFaults()...)
	for bits := range 1 << len(faults) {
		what, c, ps := some(faults, bits)
		want := api.OK
		for k, f := range slices.Backward(faults) {
			if bits>>k&1 == 1 {
				want = f.want
			}
		}
		answers(t, what, c, ps, want)
	}
}

// Each error of core.May and period.May is Of's and Place's, too.
func TestOfWhatMayNotBe(t *testing.T) {
	row := func(r api.Row) api.Core {
		c := good()
		r.Name = "bare"
		c.Rows[5] = r
		return c
	}
	col := func(x api.Col) api.Core {
		c := good()
		x.Name = "z"
		c.Cols[4] = x
		return c
	}
	cores := []api.Core{{}, {Name: "T"}, {Name: "T", Obj: "cost"}, row(api.Row{}), row(api.Row{Kind: api.RLess}), row(api.Row{Kind: math.MaxInt, Rhs: "0"}), row(api.Row{Kind: math.MinInt, Rhs: "0"}), col(api.Col{}), col(api.Col{Cost: "x"}), col(api.Col{Low: " ", Cost: "0"}), col(api.Col{Up: "2/4", Cost: "0"}), col(api.Col{Low: "1e30", Cost: "0"}), col(api.Col{Low: strings.Repeat("9", 2001), Cost: "0"})}
	for _, i := range []int{-1, 5, math.MaxInt, math.MinInt} {
		cores = append(cores, row(api.Row{Kind: api.RLess, Coef: coefs(i, "1"), Rhs: "0"}))
	}
	for _, cs := range [][]api.Coef{coefs(0, "0"), coefs(1, "1", 0, "1"), coefs(1, "1", 1, "1"), coefs(0, ""), make([]api.Coef, 1<<16)} {
		cores = append(cores, row(api.Row{Kind: api.RLess, Coef: cs, Rhs: "0"}))
	}
	for _, span := range []string{" ", "x", "-0", "1.5", "inf"} {
		cores = append(cores, row(api.Row{Kind: api.RLess, Rhs: "0", Range: span}))
	}
	for _, name := range []string{"", "x", long, "RHS", "a\n"} {
		c := good()
		c.Cols[4].Name = name
		cores = append(cores, c)
	}
	c := good()
	add(&c, 1<<16, 1<<16)
	for _, c := range append(cores, c) {
		for _, ps := range [][]api.Period{halves(), nil, halves()[:1], make([]api.Period, 3)} {
			want := core.May(c)
			// A core of names alone may be, but has no place for a period.
			if want == api.OK {
				want = period.May(c, ps)
			}
			if want == api.OK {
				t.Errorf("the test is wrong: %.300v", c)
			}
			refuses(t, fmt.Sprintf("%.300v", fmt.Sprint(c)), c, ps, want)
			nowhere(t, "a core that may not be", c, ps, api.Place{Row: "need"}, want)
		}
	}
}

func TestOfWrongPeriods(t *testing.T) {
	for k, x := range []struct {
		ps   []api.Period
		want api.Errno
	}{
		{nil, api.ErrForm}, {[]api.Period{}, api.ErrForm}, {halves()[:1], api.ErrForm}, {halves()[1:], api.ErrForm},
		{append(halves(), api.Period{Col: "z", Row: "bare", Name: "last"}), api.ErrKind}, {make([]api.Period, 1<<16), api.ErrKind},
		{make([]api.Period, 2), api.ErrName}, {at("q", "need"), api.ErrName}, {at("x", "q"), api.ErrName}, {at("need", "x"), api.ErrName}, {at("", "need"), api.ErrName}, {at("x", ""), api.ErrName}, {at(long, "need"), api.ErrName}, {at("x", "T"), api.ErrName},
		{at("a", "need"), api.ErrOrder}, {at("x", "cost"), api.ErrOrder}, {at("a", "cost"), api.ErrOrder},
		{[]api.Period{{Col: "a", Row: "cap", Name: "now"}, {Col: "x", Row: "cap", Name: "then"}}, api.ErrOrder},
		{[]api.Period{{Col: "a", Row: "mix", Name: "now"}, {Col: "x", Row: "need", Name: "then"}}, api.ErrOrder},
	} {
		refuses(t, fmt.Sprint("periods ", k), good(), x.ps, x.want)
		nowhere(t, fmt.Sprint("periods ", k), good(), x.ps, api.Place{Row: "need"}, x.want)
	}
}

func TestFirstRowsWithSecondColumns(t *testing.T) {
	for row := range 6 {
		for col := range 5 {
			for _, cs := range [][]api.Coef{coefs(col, "1"), coefs(col, "-1/7"), {{Col: 0, V: "2"}, {Col: max(col, 1), V: "1"}}, append(coefs(0, "1", 1, "1"), coefs(max(col, 2), "1")...)} {
				c := good()
				c.Rows[row].Coef = cs
				want := api.OK
				if row < 2 && cs[len(cs)-1].Col >= 2 {
					want = api.ErrOrder
				}
				answers(t, fmt.Sprint("row ", row, " of ", cs), c, halves(), want)
			}
		}
	}
	c := good()
	c.Rows[0].Coef = coefs(0, "1", 2, "1", 3, "1", 4, "1")
	refuses(t, "a first row of nearly all", c, halves(), api.ErrOrder)
	c.Rows[0].Coef = nil
	answers(t, "a first row of nothing", c, halves(), api.OK)
}

func TestSecondColumnsThatAreInt(t *testing.T) {
	for bits := range 1 << 5 {
		c := good()
		for k := range c.Cols {
			c.Cols[k].Int = bits>>k&1 == 1
		}
		want := api.OK
		if bits >= 4 {
			want = api.ErrKind
		}
		answers(t, fmt.Sprintf("Ints %b", bits), c, halves(), want)
	}
}

// Every pair of bounds at every column.
func TestBounds(t *testing.T) {
	// By rising worth, though not by rising texts.
	worth := []string{"-" + strings.Repeat("9", 2000), "-18446744073709551616", "-10", "-9", "-5/2", "-7/3", "-2", "-1/2", "-1/3", "0", "1/3", "1/2", "9/10", "2", "9", "19/2", "10", "18446744073709551615", "18446744073709551616", strings.Repeat("9", 2000)}
	for col := range 5 {
		for i, low := range worth {
			for k, up := range worth {
				c := good()
				c.Cols[col].Low, c.Cols[col].Up = low, up
				want := api.OK
				if i > k {
					want = api.ErrBound
				}
				answers(t, fmt.Sprintf("column %d: %.30q, %.30q", col, low, up), c, halves(), want)
			}
			want := api.OK
			if col < 2 {
				want = api.ErrBound
			}
			for _, bounds := range [][2]string{{low, ""}, {"", low}, {"", ""}} {
				c := good()
				c.Cols[col].Low, c.Cols[col].Up = bounds[0], bounds[1]
				answers(t, fmt.Sprintf("column %d: %.30q", col, bounds), c, halves(), want)
			}
		}
	}
}

// sized has so many columns and rows ahead and behind.
func sized(firstCols, secondCols, firstRows, secondRows int) (api.Core, []api.Period) {
	c := api.Core{Name: "T", Obj: "cost"}
	add(&c, firstCols+secondCols, firstRows+secondRows)
	for k := range firstCols {
		c.Cols[k].Low, c.Cols[k].Up = "0", "1"
	}
	return c, []api.Period{{Col: "x0", Row: "cost", Name: "now"}, {Col: fmt.Sprint("x", firstCols), Row: fmt.Sprint("r", firstRows), Name: "then"}}
}

func TestLimits(t *testing.T) {
	sizes := []int{0, 1, 2, 10, 18, 19, 20, 21, 22, 38, 39, 40}
	for _, ahead := range sizes {
		for _, behind := range sizes {
			want := api.OK
			if max(ahead, behind) > 20 {
				want = api.ErrLimit
			}
			if behind == 0 || ahead+behind > 40 {
				continue
			}
			c, ps := sized(1, 1, ahead, behind)
			answers(t, fmt.Sprint("rows ", ahead, behind), c, ps, want)
			if ahead > 0 {
				c, ps = sized(ahead, behind, 20, 20)
				answers(t, fmt.Sprint("columns ", ahead, behind), c, ps, want)
			}
		}
	}
	c, ps := sized(20, 20, 20, 20)
	two, e := split.Of(c, ps)
	if e != api.OK || len(two.First.Cols) != 20 || len(two.Second.Cols) != 20 || len(two.First.Rows) != 20 || len(two.Second.Rows) != 20 || len(two.Tech) != 20 {
		t.Errorf("P12.1: Of of the greatest core: %d, %v", e, two)
	}
}

func TestLimitsOfRanges(t *testing.T) {
	for rows := 1; rows <= 20; rows++ {
		for ranges := range rows + 1 {
			for _, kind := range []int{api.RLess, api.REqual, api.RMore} {
				want := api.OK
				if rows+ranges > 20 {
					want = api.ErrLimit
				}
				c, ps := sized(1, 1, rows, 20)
				bind(c.Rows[:ranges], kind)
				answers(t, fmt.Sprint("first rows ", rows, ranges), c, ps, want)
				c, ps = sized(1, 1, 20, rows)
				bind(c.Rows[20+rows-ranges:], kind)
				answers(t, fmt.Sprint("second rows ", rows, ranges), c, ps, want)
			}
		}
	}
	c, ps := sized(1, 1, 10, 10)
	bind(c.Rows, api.REqual)
	if two, e := split.Of(c, ps); e != api.OK || len(two.First.Rows) != 20 || len(two.Second.Rows) != 20 || len(two.Tech) != 20 {
		t.Errorf("P12.1: Of of ten Ranges ahead, ten behind: %d, %v", e, two)
	}
}

// bind gives rows a Kind and Ranges, of 0 too.
func bind(rows []api.Row, kind int) {
	for k := range rows {
		rows[k].Kind, rows[k].Range = kind, fmt.Sprint(k%3-1)
	}
}

// What files tell is parted as what is made by hand.
func TestOfFiles(t *testing.T) {
	c, _, e := core.Get("NAME T\nROWS\n L cap\n N cost\n E need\nCOLUMNS\n M 'MARKER' 'INTORG'\n a cost 1 cap 1\n a need .5\n M 'MARKER' 'INTEND'\n x need -1 cost 2\nRHS\n R cap 9\nRANGES\n R need -2.5 cap 1\nBOUNDS\n UP B a 4\n FR B x\nENDATA")
	_, ps, _, f := period.Get("TIME T\nPERIODS\n a cost now\n x need then\nENDATA")
	if e != api.OK || f != api.OK {
		t.Fatalf("P8.2, P9.1: errors %d, %d", e, f)
	}
	parts(t, "files", c, ps, api.Two{
		First: api.LP{Cols: []api.Col{{Name: "a", Low: "0", Up: "4", Cost: "1", Int: true}}, Rows: []api.Row{
			{Name: "cap", Kind: api.RLess, Coef: coefs(0, "1"), Rhs: "9"},
			{Name: "cap", Kind: api.RMore, Coef: coefs(0, "1"), Rhs: "8"},
		}},
		Second: api.LP{Cols: []api.Col{{Name: "x", Cost: "2"}}, Rows: []api.Row{
			{Name: "need", Kind: api.RMore, Coef: coefs(0, "-1"), Rhs: "-5/2"},
			{Name: "need", Kind: api.RLess, Coef: coefs(0, "-1"), Rhs: "0"},
		}},
		Tech: [][]api.Coef{coefs(0, "1/2"), coefs(0, "1/2")},
	})
	nowhere(t, "files", c, ps, api.Place{Row: "need"}, api.ErrKind)
	c.Cols[0].Up = ""
	refuses(t, "files without Up", c, ps, api.ErrBound)
}
