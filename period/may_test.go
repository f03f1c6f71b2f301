package period_test

import (
	"fmt"
	"reflect"
	"slices"
	"strings"
	"testing"

	"victualler/api"
	"victualler/core"
	"victualler/period"
)

// small is a core of the columns x, y, z, and of the rows r, s, t behind c.
func small() api.Core {
	row := func(name string) api.Row { return api.Row{Name: name, Kind: api.RLess, Rhs: "0"} }
	col := func(name string) api.Col { return api.Col{Name: name, Low: "0", Cost: "1"} }
	return api.Core{Name: "T", Obj: "c", Rows: []api.Row{row("r"), row("s"), row("t")}, Cols: []api.Col{col("x"), col("y"), col("z")}}
}

func may(t *testing.T, c api.Core, want api.Errno, ps ...api.Period) {
	t.Helper()
	if got := period.May(c, ps); got != want {
		t.Errorf("P9.1: May(rows %.9q, columns %.9q; %.60q) is %d, not %d", rowsOf(c), colsOf(c), ps, got, want)
	}
}

func rowsOf(c api.Core) []string {
	rows := []string{c.Obj}
	for _, row := range c.Rows {
		rows = append(rows, row.Name)
	}
	return rows
}

func colsOf(c api.Core) []string {
	var cols []string
	for _, col := range c.Cols {
		cols = append(cols, col.Name)
	}
	return cols
}

func TestSmallIsRight(t *testing.T) {
	if e := core.May(small()); e != api.OK {
		t.Fatalf("the test is wrong: %d", e)
	}
}

func TestMay(t *testing.T) {
	for _, first := range []string{"c", "r"} {
		for _, col := range []string{"y", "z"} {
			for _, row := range []string{"s", "t"} {
				may(t, small(), api.OK, of("x", first, "one"), of(col, row, "two"))
			}
		}
	}
	may(t, small(), api.OK, of("x", "c", "one"), of("y", "r", "two"))
	may(t, small(), api.OK, of("x", "c", "one"), of("z", "r", "two"))
	// Periods' names: any, but two.
	for _, names := range [][2]string{{"", "a"}, {"a", ""}, {"x", "c"}, {"a", "A"}, {"a", "a "}, {long, "a"}, {"\x00", "\xff"}, {"RHS", "'MARKER'"}} {
		may(t, small(), api.OK, of("x", "c", names[0]), of("y", "r", names[1]))
	}
}

// The number of periods counts ahead of all that is wrong with them.
func TestMayOfAnotherNumber(t *testing.T) {
	for _, c := range []api.Core{small(), {}} {
		may(t, c, api.ErrForm)
		may(t, c, api.ErrForm, []api.Period{}...)
		for _, p := range []api.Period{of("x", "c", "one"), of("q", "c", "one"), of("y", "t", ""), {}} {
			may(t, c, api.ErrForm, p)
			for n := range 60 {
				if n > 2 {
					may(t, c, api.ErrKind, slices.Repeat([]api.Period{p}, n)...)
				}
			}
		}
		may(t, c, api.ErrKind, of("x", "c", "one"), of("y", "r", "two"), of("z", "s", "three"))
		may(t, c, api.ErrKind, make([]api.Period, 1<<16)...)
	}
}

func TestMayOfNames(t *testing.T) {
	for _, none := range []string{"q", "", "X", "x ", " x", "C", "T", "one", "two", "RHS", "'MARKER'", "\x00", long, strings.Repeat("x", 1<<16)} {
		may(t, small(), api.ErrName, of(none, "c", "one"), of("y", "r", "two"))
		may(t, small(), api.ErrName, of("x", none, "one"), of("y", "r", "two"))
		may(t, small(), api.ErrName, of("x", "c", "one"), of(none, "r", "two"))
		may(t, small(), api.ErrName, of("x", "c", "one"), of("y", none, "two"))
		may(t, small(), api.ErrName, of(none, none, "one"), of(none, none, "two"))
	}
	// Columns are no rows, and rows no columns.
	may(t, small(), api.ErrName, of("r", "c", "one"), of("y", "r", "two"))
	may(t, small(), api.ErrName, of("c", "c", "one"), of("y", "r", "two"))
	may(t, small(), api.ErrName, of("x", "x", "one"), of("y", "r", "two"))
	may(t, small(), api.ErrName, of("x", "c", "one"), of("s", "r", "two"))
	may(t, small(), api.ErrName, of("x", "c", "one"), of("y", "y", "two"))
	for _, name := range []string{"one", "", "x", long, "\x00"} {
		may(t, small(), api.ErrName, of("x", "c", name), of("y", "r", name))
	}
}

func TestMayOfOrder(t *testing.T) {
	for _, bad := range [][2]api.Period{
		// The first one begins elsewhere than the core does.
		{of("y", "c", "one"), of("z", "r", "two")}, {of("z", "c", "one"), of("z", "r", "two")}, {of("y", "r", "one"), of("z", "s", "two")}, {of("x", "s", "one"), of("y", "t", "two")}, {of("x", "t", "one"), of("y", "t", "two")}, {of("y", "s", "one"), of("z", "t", "two")},
		// The second one's column is not behind.
		{of("x", "c", "one"), of("x", "r", "two")}, {of("x", "r", "one"), of("x", "t", "two")}, {of("y", "c", "one"), of("x", "r", "two")}, {of("y", "c", "one"), of("y", "r", "two")},
		// The second one's row is not behind.
		{of("x", "c", "one"), of("y", "c", "two")}, {of("x", "r", "one"), of("y", "r", "two")}, {of("x", "r", "one"), of("y", "c", "two")}, {of("x", "s", "one"), of("y", "r", "two")}, {of("x", "s", "one"), of("y", "s", "two")},
		{of("y", "r", "one"), of("x", "c", "two")}, {of("x", "c", "one"), of("x", "c", "two")},
	} {
		may(t, small(), api.ErrOrder, bad[0], bad[1])
		// Names that are wrong count ahead.
		may(t, small(), api.ErrName, of(bad[0].Col, bad[0].Row, "one"), of(bad[1].Col, bad[1].Row, "one"))
		may(t, small(), api.ErrName, of("q", bad[0].Row, "one"), bad[1])
		may(t, small(), api.ErrName, of(bad[0].Col, "q", "one"), bad[1])
		may(t, small(), api.ErrName, bad[0], of("q", bad[1].Row, "two"))
		may(t, small(), api.ErrName, bad[0], of(bad[1].Col, "q", "two"))
		may(t, small(), api.ErrKind, bad[0], bad[1], bad[1])
		may(t, small(), api.ErrForm, bad[0])
	}
}

// May asks just what its sentence says: not whether the core may be.
func TestMayOfOtherCores(t *testing.T) {
	first, second := of("x", "c", "one"), of("y", "r", "two")
	may(t, api.Core{}, api.ErrName, first, second)
	may(t, api.Core{Obj: "c"}, api.ErrName, first, second)
	may(t, api.Core{Obj: "c", Cols: small().Cols}, api.ErrName, first, second)
	may(t, api.Core{Obj: "c", Rows: small().Rows}, api.ErrName, first, second)
	may(t, api.Core{Obj: "c", Cols: small().Cols}, api.ErrOrder, first, of("y", "c", "two"))
	may(t, api.Core{Obj: "c", Cols: small().Cols[:1], Rows: small().Rows}, api.ErrName, first, second)
	may(t, api.Core{Obj: "c", Cols: small().Cols[:1], Rows: small().Rows}, api.ErrOrder, first, of("x", "r", "two"))
	may(t, api.Core{Obj: "c", Cols: []api.Col{{Name: "x"}, {Name: "y"}}, Rows: []api.Row{{Name: "r", Kind: -1}}}, api.OK, first, second)
}

// asked is what the sentence asks of two periods, by their names' places.
func asked(rows, cols []string, a, b api.Period) api.Errno {
	lies := func(names []string, name string) int { return slices.Index(names, name) }
	if lies(cols, a.Col) < 0 || lies(rows, a.Row) < 0 || lies(cols, b.Col) < 0 || lies(rows, b.Row) < 0 || a.Name == b.Name {
		return api.ErrName
	}
	if a.Col != cols[0] || !slices.Contains(rows[:min(2, len(rows))], a.Row) || lies(cols, b.Col) <= lies(cols, a.Col) || lies(rows, b.Row) <= lies(rows, a.Row) {
		return api.ErrOrder
	}
	return api.OK
}

// sized is a core of so many rows and columns.
func sized(rows, cols int) api.Core {
	c := api.Core{Name: "T", Obj: "c"}
	for k := range rows {
		c.Rows = append(c.Rows, api.Row{Name: fmt.Sprint("r", k), Kind: api.RMore, Rhs: "0"})
	}
	for k := range cols {
		c.Cols = append(c.Cols, api.Col{Name: fmt.Sprint("x", k), Low: "0", Cost: "0"})
	}
	return c
}

// All pairs of periods of small cores, at names that are there and one that is not.
func TestMayOfAllPairs(t *testing.T) {
	for rows := range 4 {
		for cols := range 4 {
			c := sized(rows, cols)
			var all []api.Period
			for _, col := range append(colsOf(c), "q") {
				for _, row := range append(rowsOf(c), "q") {
					all = append(all, of(col, row, "one"))
				}
			}
			for _, a := range all {
				for _, b := range all {
					may(t, c, api.ErrName, a, b)
					b.Name = "two"
					may(t, c, asked(rowsOf(c), colsOf(c), a, b), a, b)
				}
			}
		}
	}
}

// Every place of the greatest core.
func TestMayOfTheGreatestCore(t *testing.T) {
	c := sized(40, 40)
	if e := core.May(c); e != api.OK {
		t.Fatalf("the test is wrong: %d", e)
	}
	for _, a := range []api.Period{of("x0", "c", "one"), of("x0", "r0", "one"), of("x0", "r1", "one"), of("x1", "c", "one"), of("x39", "r39", "one")} {
		for _, col := range colsOf(c) {
			for _, row := range rowsOf(c) {
				b := of(col, row, "two")
				may(t, c, asked(rowsOf(c), colsOf(c), a, b), a, b)
			}
		}
	}
}

// What files tell is asked as what is made by hand.
func TestMayOfFiles(t *testing.T) {
	c, _, e := core.Get("NAME T\nROWS\n L r\n N c\n G s\nCOLUMNS\n x c 1 r 1\n y c 1 s 1\nRHS\nENDATA")
	if e != api.OK {
		t.Fatalf("P8.2: Get is %d", e)
	}
	for lines, want := range map[string]api.Errno{
		"": api.ErrForm, " x c one\n": api.ErrForm, " x c one\n y r two\n": api.OK, " x r one\n y s two\n": api.OK, " x c one\n y s two\n": api.OK, " x c one\n y s two\n y s two\n": api.ErrKind, " x c one\n z s two\n": api.ErrName, " x c one\n y s one\n": api.ErrName,
		// Obj is ahead of all rows, wherever it stands in the file.
		" x r one\n y c two\n": api.ErrOrder, " x c one\n y c two\n": api.ErrOrder, " x s one\n y r two\n": api.ErrOrder, " y s two\n x c one\n": api.ErrOrder,
	} {
		may(t, c, want, get(inPeriods+lines+"ENDATA").ps...)
	}
}

func TestMayChangesNothing(t *testing.T) {
	c, was := sized(5, 5), sized(5, 5)
	for k := range c.Rows {
		c.Rows[k].Coef, was.Rows[k].Coef = []api.Coef{{Col: k, V: "1"}}, []api.Coef{{Col: k, V: "1"}}
	}
	spare := of("x4", "r4", "spare")
	room := []api.Period{of("x0", "c", "one"), of("x2", "r3", "two"), spare, spare}
	c.Cols = append(c.Cols, api.Col{Name: "spare"})[:5]
	c.Rows = append(c.Rows, api.Row{Name: "spare"})[:5]
	for range 3 {
		for n := range 4 {
			may(t, c, []api.Errno{api.ErrForm, api.ErrForm, api.OK, api.ErrKind}[n], room[:n]...)
		}
		if !reflect.DeepEqual(c, was) || c.Cols[:6][5].Name != "spare" || c.Rows[:6][5].Name != "spare" || !slices.Equal(room, []api.Period{of("x0", "c", "one"), of("x2", "r3", "two"), spare, spare}) {
			t.Fatalf("P0.3: May changes its arguments: %v, %v", c, room)
		}
	}
	// Nothing of them is kept.
	room[1] = of("x2", "q", "two")
	may(t, c, api.ErrName, room[:2]...)
	room[1] = of("x2", "r3", "two")
	c.Cols[2].Name = "y"
	may(t, c, api.ErrName, room[:2]...)
	may(t, was, api.OK, room[:2]...)
}
