package split_test

import (
	"fmt"
	"reflect"
	"slices"
	"strings"
	"testing"

	"victualler/api"
	"victualler/split"
)

// spot is what Place answers.
type spot struct {
	kind, row, col int
	e              api.Errno
}

func place(c api.Core, ps []api.Period, where api.Place) spot {
	kind, row, col, e := split.Place(c, ps, where)
	return spot{kind, row, col, e}
}

// lies holds what Place answers.
func lies(t *testing.T, what string, c api.Core, ps []api.Period, where api.Place, want spot) {
	t.Helper()
	if got := place(c, ps, where); got != want {
		t.Errorf("P12.1: Place of %s, %.60q: %v, not %v", what, where, got, want)
	}
}

// nowhere holds that Place answers an error alone.
func nowhere(t *testing.T, what string, c api.Core, ps []api.Period, where api.Place, want api.Errno) {
	t.Helper()
	lies(t, what, c, ps, where, spot{e: want})
}

// spots are those of all places of good, with columns behind rows: "", a, b, x,
// y, z, and one that is not there.
func spots() map[string][7]spot {
	first, none, kind := spot{e: api.ErrOrder}, spot{e: api.ErrName}, spot{e: api.ErrKind}
	row := func(k int) [7]spot {
		return [7]spot{{kind: 1, row: k}, {kind: 3, row: k}, {kind: 3, row: k, col: 1}, {kind: 4, row: k}, {kind: 4, row: k, col: 1}, {kind: 4, row: k, col: 2}, none}
	}
	return map[string][7]spot{
		"cost": {kind, first, first, {kind: 2}, {kind: 2, col: 1}, {kind: 2, col: 2}, none},
		"cap":  {first, first, first, first, first, first, none},
		"mix":  {first, first, first, first, first, first, none},
		"need": row(0), "link": row(1), "own": row(2), "bare": row(3),
		"q": {none, none, none, none, none, none, none},
	}
}

var colNames = []string{"", "a", "b", "x", "y", "z", "q"}

func TestPlace(t *testing.T) {
	for row, want := range spots() {
		for k, col := range colNames {
			lies(t, "good", good(), halves(), api.Place{Col: col, Row: row}, want[k])
		}
	}
}

// A Range moves all rows behind it; its own has no place.
func TestPlaceBehindRanges(t *testing.T) {
	rows := []string{"cap", "mix", "need", "link", "own", "bare"}
	for bits := range 1 << len(rows) {
		c, moved := good(), 0
		for k := range rows {
			if bits>>k&1 == 1 {
				c.Rows[k].Range = fmt.Sprint(k - 3)
			}
		}
		want := spots()
		for k, row := range rows[2:] {
			of := want[row]
			for i := range of {
				of[i].row += moved
				if bits>>(k+2)&1 == 1 {
					of[i] = spot{e: api.ErrKind}
				}
			}
			of[6] = spot{e: api.ErrName}
			moved += bits >> (k + 2) & 1
			want[row] = of
		}
		for row, of := range want {
			for k, col := range colNames {
				lies(t, fmt.Sprintf("Ranges %b", bits), c, halves(), api.Place{Col: col, Row: row}, of[k])
			}
		}
	}
}

// lay is c with another number at a place that it has.
func lay(c api.Core, where api.Place, v string) api.Core {
	row := slices.IndexFunc(c.Rows, func(r api.Row) bool { return r.Name == where.Row })
	col := slices.IndexFunc(c.Cols, func(x api.Col) bool { return x.Name == where.Col })
	switch {
	case row < 0:
		c.Cols = slices.Clone(c.Cols)
		c.Cols[col].Cost = v
		return c
	case col < 0:
		c.Rows = slices.Clone(c.Rows)
		c.Rows[row].Rhs = v
		return c
	}
	c.Rows = slices.Clone(c.Rows)
	c.Rows[row].Coef = with(c.Rows[row].Coef, col, v)
	return c
}

// with are Coefs of which one column has another number.
func with(cs []api.Coef, col int, v string) []api.Coef {
	all := slices.DeleteFunc(slices.Clone(cs), func(x api.Coef) bool { return x.Col == col })
	all = append(all, api.Coef{Col: col, V: v})
	slices.SortFunc(all, func(a, b api.Coef) int { return a.Col - b.Col })
	return all
}

// put lays a number where a spot says.
func put(two api.Two, s spot, v string) api.Two {
	two = plain(two)
	switch s.kind {
	case 1:
		two.Second.Rows[s.row].Rhs = v
	case 2:
		two.Second.Cols[s.col].Cost = v
	case 3:
		two.Tech[s.row] = with(two.Tech[s.row], s.col, v)
	case 4:
		two.Second.Rows[s.row].Coef = with(two.Second.Rows[s.row].Coef, s.col, v)
	}
	return two
}

// What lies at a place of the core lies, once it is parted, where Place says, and
// nowhere else.
func agrees(t *testing.T, c api.Core, ps []api.Period, where api.Place) {
	t.Helper()
	s := place(c, ps, where)
	two, _ := split.Of(c, ps)
	got, e := split.Of(lay(c, where, "-77/5"), ps)
	if s.e != api.OK || e != api.OK || !reflect.DeepEqual(plain(got), put(two, s, "-77/5")) {
		t.Errorf("P12.1: Place of %q: %v, where Of has it elsewhere: %v", where, s, got)
	}
}

func TestPlaceIsOfs(t *testing.T) {
	for _, span := range []string{"", "0", "5", "-5"} {
		c, count := good(), 0
		c.Rows[3].Range, c.Rows[0].Range = span, span
		for row := range spots() {
			for _, col := range colNames {
				if where := (api.Place{Col: col, Row: row}); place(c, halves(), where).e == api.OK {
					agrees(t, c, halves(), where)
					count++
				}
			}
		}
		if want := 4*6 + 3; span == "" && count != want || span != "" && count != want-6 {
			t.Errorf("P12.1: Place tells %d places of Range %q", count, span)
		}
	}
}

// Columns and rows may have names alike; each is looked for among its own.
func TestPlaceOfNamesAlike(t *testing.T) {
	c := good()
	for k, name := range []string{"bare", "own", "link", "cost", "need"} {
		c.Cols[k].Name = name
	}
	ps := at("link", "need")
	ps[0].Col = "bare"
	for where, want := range map[api.Place]spot{
		{Col: "bare", Row: "bare"}: {kind: 3, row: 3}, {Col: "own", Row: "own"}: {kind: 3, row: 2, col: 1}, {Col: "link", Row: "link"}: {kind: 4, row: 1}, {Col: "cost", Row: "cost"}: {kind: 2, col: 1}, {Col: "need", Row: "need"}: {kind: 4, col: 2},
		{Col: "bare", Row: "cost"}: {e: api.ErrOrder}, {Col: "cost", Row: "need"}: {kind: 4, col: 1}, {Col: "cap", Row: "need"}: {e: api.ErrName}, {Col: "need", Row: "cap"}: {e: api.ErrOrder},
	} {
		lies(t, "names alike", c, ps, where, want)
	}
}

func TestPlaceOfWrongNames(t *testing.T) {
	for _, none := range []string{"q", " ", "X", "x ", " x", "COST", "T", "now", "then", "RHS", "'MARKER'", "\x00", "é", long, strings.Repeat("x", 1<<16)} {
		for _, row := range append(slices.Clone(colNames), "cost", "cap", "need", "bare", none) {
			nowhere(t, "good", good(), halves(), api.Place{Col: none, Row: row}, api.ErrName)
		}
		for _, col := range append(slices.Clone(colNames), none) {
			nowhere(t, "good", good(), halves(), api.Place{Col: col, Row: none}, api.ErrName)
		}
	}
	for _, where := range []api.Place{{}, {Col: "x"}, {Col: "a"}, {Col: "need", Row: "x"}, {Col: "cost", Row: "x"}, {Col: "need", Row: "need"}, {Col: "cost", Row: "cost"}, {Col: "cap", Row: "cost"}, {Row: "x"}} {
		nowhere(t, "good", good(), halves(), where, api.ErrName)
	}
}

// What is wrong with the core and the periods counts ahead, whatever the place is;
// what Of alone refuses has its places.
func TestPlaceWithAllFaults(t *testing.T) {
	faults := append(sharedFaults(), ownFaults()...)
	for bits := range 1 << len(faults) {
		what, c, ps := some(faults, bits)
		var want api.Errno
		for k, f := range slices.Backward(sharedFaults()) {
			if bits>>k&1 == 1 {
				want = f.want
			}
		}
		for where, right := range map[api.Place]spot{
			{Row: "bare"}: {kind: 1, row: 3}, {Col: "z", Row: "cost"}: {kind: 2, col: 2}, {Col: "b", Row: "own"}: {kind: 3, row: 2, col: 1}, {Col: "y", Row: "link"}: {kind: 4, row: 1, col: 1},
			{Row: "q"}: {e: api.ErrName}, {Row: "cap"}: {e: api.ErrOrder}, {Row: "cost"}: {e: api.ErrKind},
		} {
			if want != api.OK {
				right = spot{e: want}
			}
			lies(t, what, c, ps, where, right)
		}
	}
}

// Wherever the second stage begins, in the greatest core.
func TestPlaceOfTheGreatestCore(t *testing.T) {
	for _, ahead := range []int{1, 2, 19, 20, 39} {
		c, ps := sized(ahead, 40-ahead, ahead, 40-ahead)
		for row := range 40 {
			c.Rows[row].Range = []string{"", "", "3"}[row%3]
		}
		moved := 0
		for row := range 40 {
			name := fmt.Sprint("r", row)
			fault := api.OK
			if row < ahead {
				fault = api.ErrOrder
			} else if row%3 == 2 {
				fault = api.ErrKind
			}
			right := func(s spot) spot {
				if fault != api.OK {
					return spot{e: fault}
				}
				s.row = row - ahead + moved
				return s
			}
			lies(t, "the greatest", c, ps, api.Place{Row: name}, right(spot{kind: 1}))
			for col := range 40 {
				want, cost := spot{kind: 3, col: col}, spot{e: api.ErrOrder}
				if col >= ahead {
					want, cost = spot{kind: 4, col: col - ahead}, spot{kind: 2, col: col - ahead}
				}
				lies(t, "the greatest", c, ps, api.Place{Col: fmt.Sprint("x", col), Row: name}, right(want))
				lies(t, "the greatest", c, ps, api.Place{Col: fmt.Sprint("x", col), Row: "cost"}, cost)
			}
			if row >= ahead && row%3 == 2 {
				moved++
			}
		}
	}
}
