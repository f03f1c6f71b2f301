package split_test

import (
	"fmt"
	"math/big"
	"slices"
	"strings"
	"testing"

	"victualler/api"
	"victualler/split"
)

// sides are what a row with a Range becomes.
type sides struct {
	kind      int
	rhs, span string
	want      [2]api.Row // Kind and Rhs alone
}

func someSides() []sides {
	two := func(kind int, rhs string, other int, far string) [2]api.Row {
		return [2]api.Row{{Kind: kind, Rhs: rhs}, {Kind: other, Rhs: far}}
	}
	return []sides{
		{api.RLess, "9", "4", two(api.RLess, "9", api.RMore, "5")},
		{api.RLess, "9", "-4", two(api.RLess, "9", api.RMore, "5")},
		{api.RLess, "9", "0", two(api.RLess, "9", api.RMore, "9")},
		{api.RLess, "-1/2", "1/3", two(api.RLess, "-1/2", api.RMore, "-5/6")},
		{api.RLess, "-1/2", "-1/3", two(api.RLess, "-1/2", api.RMore, "-5/6")},
		{api.RLess, "0", "7", two(api.RLess, "0", api.RMore, "-7")},
		{api.RMore, "9", "4", two(api.RMore, "9", api.RLess, "13")},
		{api.RMore, "9", "-4", two(api.RMore, "9", api.RLess, "13")},
		{api.RMore, "9", "0", two(api.RMore, "9", api.RLess, "9")},
		{api.RMore, "-1/2", "1/3", two(api.RMore, "-1/2", api.RLess, "-1/6")},
		{api.RMore, "-1/2", "-1/3", two(api.RMore, "-1/2", api.RLess, "-1/6")},
		{api.RMore, "-7", "-7", two(api.RMore, "-7", api.RLess, "0")},
		{api.REqual, "9", "4", two(api.RMore, "9", api.RLess, "13")},
		{api.REqual, "9", "-4", two(api.RMore, "5", api.RLess, "9")},
		{api.REqual, "9", "0", two(api.RMore, "9", api.RLess, "9")},
		{api.REqual, "-1/2", "1/3", two(api.RMore, "-1/2", api.RLess, "-1/6")},
		{api.REqual, "-1/2", "-1/3", two(api.RMore, "-5/6", api.RLess, "-1/2")},
		{api.REqual, "0", "-1", two(api.RMore, "-1", api.RLess, "0")},
		{api.RLess, "18446744073709551615", "-18446744073709551615", two(api.RLess, "18446744073709551615", api.RMore, "0")},
		{api.RMore, "18446744073709551615", "1", two(api.RMore, "18446744073709551615", api.RLess, "18446744073709551616")},
		{api.REqual, "-9223372036854775808", "-1", two(api.RMore, "-9223372036854775809", api.RLess, "-9223372036854775808")},
	}
}

// Every row, of either stage, becomes two; all others stay as they are.
func TestRanges(t *testing.T) {
	for _, x := range someSides() {
		for row := range 6 {
			c, want := good(), goodTwo()
			c.Rows[row].Kind, c.Rows[row].Rhs, c.Rows[row].Range = x.kind, x.rhs, x.span
			// Of the first stage two rows, then those of the second one.
			rows, lies := &want.First.Rows, row
			if row >= 2 {
				rows, lies = &want.Second.Rows, row-2
				want.Tech = slices.Insert(want.Tech, lies, want.Tech[lies])
			}
			*rows = slices.Insert(*rows, lies, (*rows)[lies])
			for k, r := range x.want {
				(*rows)[lies+k].Kind, (*rows)[lies+k].Rhs = r.Kind, r.Rhs
			}
			parts(t, fmt.Sprint("row ", row, ", Kind ", x.kind, ", ", x.rhs, ", Range ", x.span), c, halves(), want)
		}
	}
}

// All rows at once: each one's sides stand where the row stood.
func TestManyRanges(t *testing.T) {
	c, all := good(), someSides()
	for k := range c.Rows {
		x := all[k*7%len(all)]
		c.Rows[k].Kind, c.Rows[k].Rhs, c.Rows[k].Range = x.kind, x.rhs, x.span
	}
	var want api.Two
	plain := goodTwo()
	want.First.Cols, want.Second.Cols = plain.First.Cols, plain.Second.Cols
	for k, row := range append(plain.First.Rows, plain.Second.Rows...) {
		for _, r := range all[k*7%len(all)].want {
			row.Kind, row.Rhs = r.Kind, r.Rhs
			if k < 2 {
				want.First.Rows = append(want.First.Rows, row)
				continue
			}
			want.Second.Rows = append(want.Second.Rows, row)
			want.Tech = append(want.Tech, plain.Tech[k-2])
		}
	}
	parts(t, "Ranges all over", c, halves(), want)
}

// Sides may have more digits than any number that is handed in.
func TestLongRanges(t *testing.T) {
	nines := strings.Repeat("9", 2000)
	for _, rhs := range []string{nines, "-" + nines, "1/" + nines, nines + "/1" + strings.Repeat("0", 1999), "0"} {
		for _, span := range []string{nines, "-" + nines, "1/1" + strings.Repeat("0", 1999), "-1/" + nines[1:] + "8", "1"} {
			c := good()
			c.Rows[2].Kind, c.Rows[2].Rhs, c.Rows[2].Range = api.RMore, rhs, span
			two, e := split.Of(c, halves())
			a, _ := new(big.Rat).SetString(rhs)
			b, _ := new(big.Rat).SetString(span)
			if want := new(big.Rat).Add(a, b.Abs(b)).RatString(); e != api.OK || two.Second.Rows[0].Rhs != rhs || two.Second.Rows[1].Rhs != want {
				t.Errorf("P12.1: Of of Rhs %.9q, Range %.9q: error %d", rhs, span, e)
			}
		}
	}
}
