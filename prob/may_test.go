package prob_test

import (
	"fmt"
	"math"
	"slices"
	"strings"
	"testing"

	"victualler/api"
	"victualler/prob"
)

// good is a program of three columns and of three rows, one of each kind.
func good() api.LP {
	return lp([]string{"1 0 5", "-2/3 - 7/2", "0 -1 - int"}, "< 9 1 2 3", "= 1/2 0 -1 1/3", "> -4 5 0 0")
}

var (
	nines     = strings.Repeat("9", 2000)
	okNumbers = []string{"0", "1", "-1", "10", "-7/3", "1/2", "18446744073709551616", "-1/18446744073709551616", nines, "-" + nines, "1/" + nines, "-" + nines + "/2"}
	noNumbers = []string{"", " ", "x", "-", "/", "1/", "/2", "--1", "+1", " 1", "1 ", "1\n", "1.0", "0.5", ".5", "1.", "1e3", "1E3", "00", "01", "-0", "-01", "0/1", "0/2", "2/4", "-2/4", "2/1", "1/1", "1/0", "0/0", "1/-2", "1/+2", "1/02", "1/2/3", "inf", "-inf", "1e30", "NaN", "0x1", "1_0", "1,5", "\x00", "1\x00", "\xff", "½", "１", nines + "9", "-" + nines + "9", "1/" + nines + "9", "0" + nines}
)

func TestMay(t *testing.T) {
	taken(t, "a good one", good())
	taken(t, "nothing", api.LP{})
	taken(t, "empty lists", api.LP{Cols: []api.Col{}, Rows: []api.Row{}})
	taken(t, "a row of nothing", api.LP{Rows: []api.Row{{Kind: 1, Rhs: "0"}}})
	taken(t, "a row of an empty list", api.LP{Rows: []api.Row{{Kind: 3, Rhs: "5", Coef: []api.Coef{}}}})
	taken(t, "a column alone", api.LP{Cols: []api.Col{{Cost: "0"}}})
	refused(t, "zero column", api.LP{Cols: make([]api.Col, 1)})
	refused(t, "zero row", api.LP{Rows: make([]api.Row, 1)})
}

// field is a number of a program, at one of its columns or rows.
type field struct {
	what string
	of   func(l *api.LP) *string
}

// fields are all numbers of good's: those that must be there, and those that
// may be "".
func fields() (must, may []field) {
	for k := range 3 {
		must = append(must, field{fmt.Sprint("Cost ", k), func(l *api.LP) *string { return &l.Cols[k].Cost }}, field{fmt.Sprint("Rhs ", k), func(l *api.LP) *string { return &l.Rows[k].Rhs }})
		may = append(may, field{fmt.Sprint("Low ", k), func(l *api.LP) *string { return &l.Cols[k].Low }}, field{fmt.Sprint("Up ", k), func(l *api.LP) *string { return &l.Cols[k].Up }})
		for i := range good().Rows[k].Coef {
			must = append(must, field{fmt.Sprint("Coef ", k, i), func(l *api.LP) *string { return &l.Rows[k].Coef[i].V }})
		}
	}
	return must, may
}

// Each text but names is a number; just Low and Up may be "".
func TestMayOfTexts(t *testing.T) {
	must, may := fields()
	for k, f := range slices.Concat(must, may) {
		for _, s := range noNumbers {
			l := good()
			*f.of(&l) = s
			if what := fmt.Sprintf("%s: %.50q", f.what, s); s == "" && k >= len(must) {
				taken(t, what, l)
			} else {
				refused(t, what, l)
			}
		}
		for _, s := range okNumbers {
			l := good()
			for c := range l.Cols {
				l.Cols[c].Low, l.Cols[c].Up = "", ""
			}
			*f.of(&l) = s
			if what := fmt.Sprintf("%s: %.50q", f.what, s); s == "0" && strings.HasPrefix(f.what, "Coef") {
				refused(t, what, l)
			} else {
				taken(t, what, l)
			}
		}
	}
}

// No Low is above its Up; both may be the same.
func TestMayOfBounds(t *testing.T) {
	rising := []string{"-" + nines, "-18446744073709551616", "-10", "-2", "-1", "-2/3", "-1/2", "-1/" + nines, "0", "1/" + nines, "1/3", "1/2", "2/3", "1", "2", "10", "18446744073709551615", "18446744073709551616", nines}
	for low := range rising {
		for up := range rising {
			for k := range 3 {
				l := good()
				l.Cols[k].Low, l.Cols[k].Up = rising[low], rising[up]
				if what := fmt.Sprintf("bounds of %d: %.30s, %.30s", k, rising[low], rising[up]); low > up {
					refused(t, what, l)
				} else {
					taken(t, what, l)
				}
			}
		}
	}
	// The bounds of one column, not those of two.
	l := lp([]string{"0 5 -", "0 - 3", "0 9 9", "0 1 2"})
	taken(t, "bounds of two columns", l)
}

// Of all short lists of Cols just those are right that rise within the columns.
func TestMayOfCols(t *testing.T) {
	cols := []int{math.MinInt, -2, -1, 0, 1, 2, 3, 4, 1 << 32, math.MaxInt}
	lists := [][]int{nil}
	for start, size := 0, 0; size < 4; size++ {
		end := len(lists)
		for ; start < end; start++ {
			for _, col := range cols {
				lists = append(lists, append(slices.Clone(lists[start]), col))
			}
		}
	}
	for n, list := range lists {
		l := good()
		row := &l.Rows[n%3]
		row.Coef = nil
		right := true
		for k, col := range list {
			row.Coef = append(row.Coef, api.Coef{Col: col, V: "1"})
			right = right && col >= 0 && col < 3 && (k == 0 || list[k-1] < col)
		}
		switch what := fmt.Sprint("Cols ", list); {
		case prob.May(l) != right:
			t.Errorf("P14.1: May of %s is %v", what, !right)
		case right:
			taken(t, what, l)
		case len(list) < 3:
			refused(t, what, l)
		}
	}
	l := lp(nil, "= 0 1")
	refused(t, "a Coef of no column", l)
	l = good()
	for k := range 2000 {
		l.Rows[1].Coef = append(l.Rows[1].Coef, api.Coef{Col: k, V: "1"})
	}
	refused(t, "2002 Coefs", l)
}

// None of a row's Coefs is 0, at whatever place.
func TestMayOfNoughts(t *testing.T) {
	for row, coefs := range []int{3, 2, 1} {
		for k := range coefs {
			l := good()
			l.Rows[row].Coef[k].V = "0"
			refused(t, fmt.Sprint("Coef of 0: ", row, k), l)
			for i := range coefs {
				l.Rows[row].Coef[i].V = "0"
			}
			refused(t, fmt.Sprint("all Coefs 0: ", row), l)
		}
	}
}

func TestMayOfKinds(t *testing.T) {
	for _, kind := range []int{math.MinInt, -3, -2, -1, 0, 1, 2, 3, 4, 5, 6, 1<<32 + 1, math.MaxInt} {
		for k := range 3 {
			l := good()
			l.Rows[k].Kind = kind
			if what := fmt.Sprint("Kind ", kind, " of row ", k); kind < 1 || kind > 3 {
				refused(t, what, l)
			} else {
				taken(t, what, l)
			}
		}
	}
}

func TestMayOfRanges(t *testing.T) {
	for _, s := range []string{"0", "1", "-1/2", " ", "x", "\x00", nines} {
		for k := range 3 {
			l := good()
			l.Rows[k].Range = s
			refused(t, fmt.Sprintf("Range %.20q of row %d", s, k), l)
		}
	}
}

// Names are any.
func TestMayOfNames(t *testing.T) {
	for _, s := range []string{"", " ", "x", "RHS", "'MARKER'", "a b", "\x00", "\xff", "theta", "cut", strings.Repeat("n", 5000)} {
		l := good()
		for k := range 3 {
			l.Cols[k].Name, l.Rows[k].Name = s, s
		}
		taken(t, fmt.Sprintf("names %.20q", s), l)
		if got, want := told(t, l, []string{"1", "1/2", "1"}), told(t, good(), []string{"1", "1/2", "1"}); got != want {
			t.Errorf("P14.1: names %.20q change %v to %v", s, want, got)
		}
	}
}

func TestMayOfInts(t *testing.T) {
	for bits := range 8 {
		l := good()
		for k := range 3 {
			l.Cols[k].Int = bits>>k&1 == 1
		}
		taken(t, fmt.Sprint("Ints ", bits), l)
	}
}

// sized has so many columns and rows.
func sized(cols, rows int) api.LP {
	var l api.LP
	for range cols {
		l.Cols = append(l.Cols, api.Col{Low: "0", Cost: "1"})
	}
	for k := range rows {
		r := api.Row{Kind: api.RLess, Rhs: "1"}
		if cols > 0 {
			r.Coef = []api.Coef{{Col: k % cols, V: "1"}}
		}
		l.Rows = append(l.Rows, r)
	}
	return l
}

func TestMayOfSizes(t *testing.T) {
	for _, cols := range []int{0, 1, 99, 100, 101, 102, 200, 1000, 5000} {
		for _, rows := range []int{0, 1, 100, 101, 439, 440, 441, 442, 880, 5000} {
			if what, l := fmt.Sprint(cols, " by ", rows), sized(cols, rows); cols <= 100 && rows <= 440 {
				taken(t, what, l)
			} else {
				refused(t, what, l)
			}
		}
	}
	l := sized(100, 440)
	l.Rows[439].Coef = []api.Coef{{Col: 0, V: "1"}, {Col: 99, V: "1"}}
	taken(t, "the last column in the last row", l)
	l.Rows[439].Coef[1].Col = 100
	refused(t, "a column behind all", l)
	l = sized(100, 440)
	l.Cols[99].Cost = "x"
	refused(t, "the last column's Cost", l)
	l = sized(100, 440)
	l.Rows[439].Rhs = ""
	refused(t, "the last row's Rhs", l)
	refused(t, "a million columns", api.LP{Cols: make([]api.Col, 1000000)})
	refused(t, "a million rows", api.LP{Rows: make([]api.Row, 1000000)})
}
