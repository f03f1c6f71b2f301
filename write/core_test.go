package write_test

import (
	"fmt"
	"math"
	"reflect"
	"strings"
	"testing"

	"victualler/api"
	"victualler/core"
	"victualler/write"
)

const (
	name20 = "a23456789b123456789c"  // the longest Name
	long   = "a23456789b123456789c1" // no Name
)

// wrongNames are no words.Name.
func wrongNames() []string {
	return []string{"", " ", "a b", "a ", " a", "\t", "a\tb", "\n", "a\n", "a\nENDATA", "a\r", "\x00", "a\x00", "a\x1f", "a\x7f", "\x80", "é", "a\xff", long, strings.Repeat("q", 1<<20)}
}

// names are names of all bytes that may be, and such as a file has other uses for.
func names() []string {
	all := []string{"NAME", "ROWS", "COLUMNS", "RANGES", "BOUNDS", "ENDATA", "TIME", "PERIODS", "STOCH", "INDEP", "BLOCKS", "SCENARIOS", "DISCRETE", "ROOT", "'ROOT'", "BL", "SC", "N", "L", "E", "G", "UP", "LO", "FX", "FR", "MI", "PL", "BV", "LI", "UI", "RNG", "BND", "MARKER", "'INTORG'", "'INTEND'", "*", "**", "1", "-1", "1/2", "1e30", "inf", "-inf", "INF", "0", "rhs", "'marker'", "S0", "THEN", name20, strings.Repeat("*", 20)}
	for b := byte(0x21); b <= 0x7e; b++ {
		all = append(all, string(b), "a"+string(b), strings.Repeat(string(b), 20))
	}
	return all
}

// nines is a number of so many bytes.
func nines(n int) string { return strings.Repeat("9", n) }

// longest are numbers of 40 bytes, tooLong such of more, with and without a
// shorter literal.
func longest() []string {
	return []string{nines(40), "-" + nines(39), "1/" + nines(38), nines(38) + "/2", "-1/" + nines(37), "-" + nines(37) + "/7", "1" + strings.Repeat("0", 39), "-1" + strings.Repeat("0", 38), "1/1" + strings.Repeat("0", 37)}
}

func tooLong() []string {
	return []string{nines(41), "-" + nines(40), "1/" + nines(39), nines(39) + "/2", "-1/" + nines(38), "-" + nines(38) + "/7", "1" + strings.Repeat("0", 40), "-1" + strings.Repeat("0", 39), "1/1" + strings.Repeat("0", 38), "1" + strings.Repeat("0", 100), nines(2000), "1/" + nines(2000)}
}

// wrongNumbers are no frac.Get.
func wrongNumbers() []string {
	return []string{" ", "x", "+1", "1.5", "1.", ".5", "1e1", "inf", "-inf", "1e30", "2/4", "3/1", "0/1", "1/0", "-0", "00", "01", " 1", "1 ", "1 1", "--1", "1/-2", "1/", "/1", "/", "-", "\x00", "１", nines(2001), strings.Repeat("1", 1<<20)}
}

func numbers() []string {
	return append(longest(), "0", "1", "-1", "5/7", "-7/2", "10", "1000000000000000000000000000000", "-1000000000000000000000000000000", "18446744073709551616", "9223372036854775807", "-9223372036854775808")
}

// good may be, and has some of all.
func good() api.Core {
	return api.Core{Name: "T", Obj: "cost", Rows: []api.Row{
		{Name: "cap", Kind: api.RLess, Coef: []api.Coef{{Col: 0, V: "1"}, {Col: 2, V: "-3/2"}}, Rhs: "10", Range: "3"},
		{Name: "need", Kind: api.RMore, Coef: []api.Coef{{Col: 1, V: "5"}}, Rhs: "0"},
		{Name: "even", Kind: api.REqual, Coef: []api.Coef{{Col: 0, V: "1"}, {Col: 1, V: "2"}, {Col: 2, V: "3"}}, Rhs: "-7", Range: "-1/3"},
	}, Cols: []api.Col{
		{Name: "xx", Low: "0", Cost: "2"},
		{Name: "yy", Low: "-1", Up: "8", Cost: "0", Int: true},
		{Name: "zz", Up: "0", Cost: "-1/2"},
	}}
}

// bare has nil for lists that are empty.
func bare(c api.Core) api.Core {
	rows := append([]api.Row(nil), c.Rows...)
	for k := range rows {
		rows[k].Coef = append([]api.Coef(nil), rows[k].Coef...)
	}
	return api.Core{Name: c.Name, Obj: c.Obj, Rows: rows, Cols: append([]api.Col(nil), c.Cols...)}
}

// keeps holds that what is written of c is read as c.
func keeps(t *testing.T, what string, c api.Core) {
	t.Helper()
	text, ok := write.Core(c)
	got, line, e := core.Get(text)
	if !ok || e != api.OK || line != 0 || !core.Eq(got, c) || !reflect.DeepEqual(bare(got), bare(c)) {
		t.Errorf("V1: Core of %s: %v, then line %d, error %d: %.3000q", what, ok, line, e, text)
	}
}

// refuses holds that c is not written.
func refuses(t *testing.T, what string, c api.Core) {
	t.Helper()
	if text, ok := write.Core(c); ok || text != "" {
		t.Errorf("P11.1: Core of %s: %v, %.300q", what, ok, text)
	}
}

// field is a place of a Core that holds a text.
type field struct {
	what string
	of   func(c *api.Core) *string
}

func nameFields() []field {
	return []field{
		{"Name", func(c *api.Core) *string { return &c.Name }},
		{"Obj", func(c *api.Core) *string { return &c.Obj }},
		{"the first row", func(c *api.Core) *string { return &c.Rows[0].Name }},
		{"the last row", func(c *api.Core) *string { return &c.Rows[2].Name }},
		{"the first column", func(c *api.Core) *string { return &c.Cols[0].Name }},
		{"the last column", func(c *api.Core) *string { return &c.Cols[2].Name }},
	}
}

// numberFields must hold a number, optionalFields may.
func numberFields() []field {
	return []field{
		{"the first Coef", func(c *api.Core) *string { return &c.Rows[0].Coef[0].V }},
		{"a Coef", func(c *api.Core) *string { return &c.Rows[1].Coef[0].V }},
		{"the last Coef", func(c *api.Core) *string { return &c.Rows[2].Coef[2].V }},
		{"the first Rhs", func(c *api.Core) *string { return &c.Rows[0].Rhs }},
		{"the last Rhs", func(c *api.Core) *string { return &c.Rows[2].Rhs }},
		{"the first Cost", func(c *api.Core) *string { return &c.Cols[0].Cost }},
		{"the last Cost", func(c *api.Core) *string { return &c.Cols[2].Cost }},
	}
}

func optionalFields() []field {
	return []field{
		{"the first Range", func(c *api.Core) *string { return &c.Rows[0].Range }},
		{"the last Range", func(c *api.Core) *string { return &c.Rows[2].Range }},
		{"the first Low", func(c *api.Core) *string { return &c.Cols[0].Low }},
		{"the last Low", func(c *api.Core) *string { return &c.Cols[2].Low }},
		{"the first Up", func(c *api.Core) *string { return &c.Cols[0].Up }},
		{"the last Up", func(c *api.Core) *string { return &c.Cols[2].Up }},
	}
}

// with is good with another text in one field.
func with(f field, text string) (string, api.Core) {
	c := good()
	*f.of(&c) = text
	return fmt.Sprintf("%s %.50q", f.what, text), c
}

func TestCore(t *testing.T) {
	keeps(t, "some of all", good())
	keeps(t, "names alone", api.Core{Name: "T", Obj: "c"})
	keeps(t, "empty lists", api.Core{Name: "T", Obj: "c", Rows: []api.Row{}, Cols: []api.Col{}})
	keeps(t, "a row alone", api.Core{Name: "T", Obj: "c", Rows: []api.Row{{Name: "r", Kind: api.RMore, Coef: []api.Coef{}, Rhs: "0"}}})
	keeps(t, "a column alone", api.Core{Name: "T", Obj: "c", Cols: []api.Col{{Name: "x", Low: "0", Cost: "0"}}})
	keeps(t, "all alike", api.Core{Name: "c", Obj: "c", Rows: []api.Row{{Name: "x", Kind: api.REqual, Rhs: "0"}}, Cols: []api.Col{{Name: "c", Low: "0", Cost: "0"}, {Name: "x", Low: "0", Cost: "0"}}})
	refuses(t, "nothing", api.Core{})
	for _, kind := range []int{api.RLess, api.REqual, api.RMore} {
		for _, size := range []string{"", "0", "1", "-1"} {
			c := good()
			c.Rows[1].Kind, c.Rows[1].Range = kind, size
			keeps(t, fmt.Sprintf("Kind %d, Range %q", kind, size), c)
		}
	}
}

func TestCoresNames(t *testing.T) {
	for _, f := range nameFields() {
		for _, name := range names() {
			if name == "RHS" && strings.HasSuffix(f.what, "column") {
				continue
			}
			keeps(t, f.what+" "+name, second(with(f, name)))
		}
		for _, name := range wrongNames() {
			what, c := with(f, name)
			refuses(t, what, c)
		}
	}
	for k, f := range nameFields() {
		for name, bars := range map[string][]bool{
			"RHS": {false, false, false, false, true, true}, "'MARKER'": {false, true, true, true, false, false},
			"cost": {false, false, true, true, false, false}, "need": {false, true, true, true, false, false}, "yy": {false, false, false, false, true, true},
		} {
			what, c := with(f, name)
			if bars[k] {
				refuses(t, what, c)
			} else {
				keeps(t, what, c)
			}
		}
	}
}

func second(_ string, c api.Core) api.Core { return c }

func TestCoresNumbers(t *testing.T) {
	for k, f := range append(numberFields(), optionalFields()...) {
		coef, optional := k < 3, k >= len(numberFields())
		for _, text := range numbers() {
			if what, c := with(f, text); text == "0" && coef {
				refuses(t, what, c)
			} else {
				keeps(t, what, c)
			}
		}
		for _, text := range append(wrongNumbers(), tooLong()...) {
			what, c := with(f, text)
			refuses(t, what, c)
		}
		if what, c := with(f, ""); optional {
			keeps(t, what, c)
		} else {
			refuses(t, what, c)
		}
	}
}

func TestCoreOfWhatMayNotBe(t *testing.T) {
	for _, kind := range []int{0, 4, -1, 5, math.MaxInt, math.MinInt, 1<<32 + 1} {
		for k := range 3 {
			c := good()
			c.Rows[k].Kind = kind
			refuses(t, fmt.Sprint("Kind ", kind), c)
		}
	}
	one := func(col int) api.Coef { return api.Coef{Col: col, V: "1"} }
	for _, cs := range [][]api.Coef{{one(3)}, {one(-1)}, {one(math.MaxInt)}, {one(math.MinInt)}, {one(1), one(0)}, {one(1), one(1)}, {one(0), one(1), one(2), one(3)}, {one(2), one(0)}, {{Col: 0, V: "0"}}, {one(0), {Col: 1, V: "0"}}} {
		c := good()
		c.Rows[1].Coef = cs
		refuses(t, fmt.Sprint("Coefs ", cs), c)
	}
	for _, cs := range [][]api.Coef{nil, {}, {one(0)}, {one(2)}, {one(0), one(2)}, {one(0), one(1), one(2)}} {
		c := good()
		c.Rows[1].Coef = cs
		keeps(t, fmt.Sprint("Coefs ", cs), c)
	}
}

func TestCoresBounds(t *testing.T) {
	texts := append(longest(), "", "0", "1", "-1", "5/7", "-7/2", "1000000000000000000000000000000", "-1000000000000000000000000000000")
	for _, low := range texts {
		for _, up := range texts {
			for _, whole := range []bool{false, true} {
				c := good()
				c.Cols[1].Low, c.Cols[1].Up, c.Cols[1].Int = low, up, whole
				keeps(t, fmt.Sprintf("Low %q, Up %q, Int %v", low, up, whole), c)
			}
		}
	}
}

// All ways in which some of eight columns are Int.
func TestCoresInts(t *testing.T) {
	for n := range 9 {
		for bits := range 1 << n {
			c := api.Core{Name: "T", Obj: "c", Rows: []api.Row{{Name: "r", Kind: api.RLess, Rhs: "1"}}}
			for k := range n {
				c.Cols = append(c.Cols, api.Col{Name: fmt.Sprint("x", k), Low: "0", Cost: "1", Int: bits>>k&1 == 1})
				c.Rows[0].Coef = append(c.Rows[0].Coef, api.Coef{Col: k, V: "1"})
			}
			keeps(t, fmt.Sprintf("%d columns, Int %b", n, bits), c)
		}
	}
}

// All ways in which three rows have some of three columns, with a cost or none.
func TestCoresCoefs(t *testing.T) {
	for bits := range 1 << 12 {
		c := good()
		for k := range 3 {
			c.Cols[k].Cost = fmt.Sprint(bits >> (9 + k) & 1)
			c.Rows[k].Coef = nil
			for col := range 3 {
				if bits>>(3*k+col)&1 == 1 {
					c.Rows[k].Coef = append(c.Rows[k].Coef, api.Coef{Col: col, V: fmt.Sprint(1 + 3*k + col)})
				}
			}
		}
		keeps(t, fmt.Sprintf("Coefs and Costs %b", bits), c)
	}
}

// sized is a Core of so many rows and columns, all that it can have as long as
// may be.
func sized(rows, cols int) api.Core {
	c := api.Core{Name: name20, Obj: strings.Repeat("o", 20)}
	for k := range cols {
		c.Cols = append(c.Cols, api.Col{Name: fmt.Sprintf("%020d", k), Low: "-" + nines(39), Up: nines(40), Cost: "1/" + nines(38), Int: k%2 == 0})
	}
	for k := range rows {
		row := api.Row{Name: fmt.Sprintf("%020d", k), Kind: 1 + k%3, Rhs: nines(40), Range: "-" + nines(39)}
		for col := range cols {
			row.Coef = append(row.Coef, api.Coef{Col: col, V: nines(38) + "/2"})
		}
		c.Rows = append(c.Rows, row)
	}
	return c
}

func TestCoreAtItsLimits(t *testing.T) {
	for _, rows := range []int{0, 1, 2, 19, 20, 21, 39, 40} {
		for _, cols := range []int{0, 1, 2, 19, 20, 21, 39, 40} {
			keeps(t, fmt.Sprintf("%d rows, %d columns", rows, cols), sized(rows, cols))
		}
	}
	for _, rows := range []int{0, 1, 40, 41, 100, 1 << 16} {
		refuses(t, fmt.Sprintf("%d rows, 41 columns", rows), sized(rows, 41))
		if rows > 40 {
			refuses(t, fmt.Sprintf("%d rows, no column", rows), sized(rows, 0))
			refuses(t, fmt.Sprintf("%d rows, 1 column", rows), sized(rows, 1))
		}
	}
	refuses(t, "very many columns", sized(0, 1<<16))
	c := sized(40, 40)
	c.Rows[39].Coef[39].V = nines(39) + "/2"
	refuses(t, "a last Coef of 41 bytes", c)
	// Long rows that many share end a call no later than one of them.
	c = sized(1, 40)
	c.Rows[0].Coef = append(c.Rows[0].Coef, make([]api.Coef, 1<<20)...)
	for k := range 1 << 12 {
		c.Rows = append(c.Rows, api.Row{Name: fmt.Sprint(k), Kind: api.RLess, Coef: c.Rows[0].Coef, Rhs: "0"})
	}
	refuses(t, "long rows", c)
}

// roomy is c with spare room behind all lists, in which nothing may change.
func roomy(c api.Core) api.Core {
	c = bare(c)
	for k := range c.Rows {
		c.Rows[k].Coef = append(c.Rows[k].Coef, api.Coef{Col: 77, V: "spare"})[:len(c.Rows[k].Coef)]
	}
	c.Rows = append(c.Rows, api.Row{Name: "spare"})[:len(c.Rows)]
	c.Cols = append(c.Cols, api.Col{Name: "spare"})[:len(c.Cols)]
	return c
}

// spread tells all of c, its spare room too.
func spread(c api.Core) string {
	var all strings.Builder
	for _, row := range c.Rows[:cap(c.Rows)] {
		fmt.Fprintf(&all, "%v %v\n", row, row.Coef[:cap(row.Coef)])
	}
	fmt.Fprintf(&all, "%v %v", c.Cols[:cap(c.Cols)], c)
	return all.String()
}

func TestCoreChangesAndKeepsNothing(t *testing.T) {
	none := good()
	none.Rows[2].Coef[2].V = nines(41)
	for _, c := range []api.Core{good(), none, sized(40, 40), sized(41, 3), {Name: "T", Obj: "c"}, {}} {
		first, _ := write.Core(c)
		mine := roomy(c)
		was := spread(mine)
		text, ok := write.Core(mine)
		if spread(mine) != was {
			t.Errorf("P0.3: Core changes what it is handed: %.300s", was)
		}
		if len(mine.Rows) > 0 {
			mine.Rows[0].Name, mine.Rows[0].Rhs = "scribbled", "8"
		}
		write.Core(sized(2, 2))
		if again, same := write.Core(c); again != first || text != first || same != ok {
			t.Errorf("P0.5: Core answers %.300q, %.300q, %.300q of one Core", first, text, again)
		}
	}
}
