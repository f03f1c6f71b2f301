package prob_test

import (
	"fmt"
	"strings"
	"testing"

	"victualler/api"
)

// bounds holds Bound without costs and with them; `-`: there is none.
func bounds(t *testing.T, l api.LP, dual, without, with string) {
	t.Helper()
	y := strings.Fields(dual)
	for k, want := range []string{without, with} {
		if want == "-" {
			want = ""
		}
		got, ask := bound(t, l, y, k == 1), askedBound(l, y, k == 1)
		if got != want || got != ask {
			t.Errorf("P14.1: Bound(%s, %.100q, %v) is %.100q, not %.100q (%.100q)", brief(l), dual, k == 1, got, want, ask)
		}
	}
}

// Of a RLess at most 0, of a RMore at least 0, of a REqual any.
func TestBoundOfSigns(t *testing.T) {
	for _, kind := range []string{"<", "=", ">"} {
		for y, signs := range map[string]string{"-1": "<=", "-1/9": "<=", "-18446744073709551616": "<=", "0": "<=>", "1": "=>", "1/9": "=>", "18446744073709551616": "=>"} {
			want := "-"
			if strings.Contains(signs, kind) {
				want = y
			}
			bounds(t, lp(nil, kind+" 1"), y, want, want)
			bounds(t, lp(nil, "< 0", "= 5", kind+" 1", "> 0"), "-1 0 "+y+" 1", want, want)
			bounds(t, lp([]string{"0 0 0"}, kind+" 1 7"), y, want, want)
		}
	}
}

// The share of one column: of a d above 0 its Low, of one below 0 its Up.
func TestBoundOfEnds(t *testing.T) {
	for _, x := range []struct{ col, row, y, without, with string }{
		// d is 0 and 6
		{"6 3 5", "= 10 1", "0", "0", "18"},
		{"6 3 -", "= 10 1", "0", "0", "18"},
		{"6 - 5", "= 10 1", "0", "0", "-"},
		{"6 - -", "= 10 1", "0", "0", "-"},
		{"6 0 5", "= 10 1", "0", "0", "0"},
		// -6 and 0
		{"6 3 5", "= 10 1", "6", "30", "60"},
		{"6 3 -", "= 10 1", "6", "-", "60"},
		{"6 - 5", "= 10 1", "6", "30", "60"},
		{"6 - -", "= 10 1", "6", "-", "60"},
		{"6 3 0", "= 10 1", "6", "-", "-"}, // it may not be
		{"6 - 0", "= 10 1", "6", "60", "60"},
		// -2 and 4
		{"6 3 5", "= 10 1", "2", "10", "32"},
		{"6 3 -", "= 10 1", "2", "-", "32"},
		{"6 - 5", "= 10 1", "2", "10", "-"},
		{"6 - -", "= 10 1", "2", "-", "-"},
		// 2 and -4
		{"-6 3 5", "= 10 1", "-2", "-14", "-40"},
		{"-6 3 -", "= 10 1", "-2", "-14", "-"},
		{"-6 - 5", "= 10 1", "-2", "-", "-40"},
		{"-6 - -", "= 10 1", "-2", "-", "-"},
		// a fraction, a Coef that is none, a cost that is none
		{"1/2 -1/3 1/5", "> 1/7 3/2", "1/3", "-11/210", "1/21"},
		{"1/2 -1/3 1/5", "> 1/7 1", "1/3", "-2/105", "-1/126"},
		{"5 2 -", "> 4 0", "3", "12", "22"},
		{"0 2 -", "< 4 1", "-3", "-6", "-6"},
		{"0 - 2", "< 4 1", "0", "0", "0"},
		{"0 - 2 int", "< 4 -1", "-3", "-18", "-18"},
	} {
		bounds(t, lp([]string{x.col}, x.row), x.y, x.without, x.with)
	}
}

func TestBoundOfAll(t *testing.T) {
	l := lp([]string{"1 0 5", "2 - -", "-3 -1 -", "0 - 4"}, "< 9 1 2 1 0", "> 1 1 0 0 -1", "= 6 0 1 0 0")
	bounds(t, l, "0 0 0", "0", "-")
	bounds(t, l, "0 0 2", "-", "-")
	bounds(t, l, "-3 0 6", "6", "-")
	bounds(t, l, "-3 0 8", "-", "21")
	bounds(t, l, "-3 1 8", "-", "-")
	bounds(t, l, "-1 0 2", "2", "-")
	bounds(t, l, "-1 1 2", "-", "-")
	bounds(t, l, "1 0 2", "-", "-")
	bounds(t, l, "0 -1 2", "-", "-")
	// Of no columns, of no rows, of neither.
	bounds(t, lp(nil, "< 9", "= -1/2", "> 7"), "-1 4 1/7", "-10", "-10")
	bounds(t, lp([]string{"1 2 3", "-1 4 5", "0 - -"}), "", "0", "-3")
	bounds(t, lp([]string{"1 2 3", "-1 4 -", "0 - -"}), "", "0", "-")
	bounds(t, api.LP{}, "", "0", "0")
}

// Each row's Coefs count at their columns, each right side at its row.
func TestBoundOfPlaces(t *testing.T) {
	var cols, rows []string
	for k := range 7 {
		cols = append(cols, fmt.Sprint("0 ", 1<<k, " ", 1<<k))
		coefs := strings.Repeat("0 ", k) + "1"
		rows = append(rows, fmt.Sprint("= ", 1<<(k+8), " ", coefs))
	}
	l := lp(cols, rows...)
	for k := range 7 {
		y := many("0", 7)
		y[k] = "-1"
		want := fmt.Sprint(1<<k - 1<<(k+8))
		bounds(t, l, strings.Join(y, " "), want, want)
	}
	bounds(t, l, strings.Repeat("-1 ", 7), fmt.Sprint(127-127<<8), fmt.Sprint(127-127<<8))
}

// duals that are no numbers, or not as many as rows, at each place.
func TestBoundOfNoDual(t *testing.T) {
	l := lp([]string{"1 0 5", "1 0 5"}, "< 9 1 1", "= 9 1 1", "> 9 1 1")
	bounds(t, l, "-1 1 1", "-1", "9")
	for n := range 12 {
		want := "-"
		if n == 3 {
			want = "0"
		}
		bounds(t, l, strings.Repeat("0 ", n), want, want)
	}
	for k := range 3 {
		for _, s := range noNumbers {
			y := []string{"0", "0", "0"}
			y[k] = s
			if a, b := bound(t, l, y, false), bound(t, l, y, true); a != "" || b != "" {
				t.Errorf("P14.1: Bound of %.60q at %d: %.60q, %.60q", s, k, a, b)
			}
		}
		for _, s := range okNumbers {
			y := []string{"0", "0", "0"}
			y[k] = s
			agrees(t, l, []string{s, s}, y)
			agrees(t, l, []string{"0", s}, y)
		}
	}
	for _, y := range [][]string{nil, {}, make([]string, 3), many("0", 1000), many("0", 1001), many("0", 1000000), make([]string, 1000000)} {
		if a, b := bound(t, l, y, false), bound(t, l, y, true); a != "" || b != "" {
			t.Errorf("P14.1: Bound of %d texts: %.60q, %.60q", len(y), a, b)
		}
	}
	// As many as rows, not as columns.
	bounds(t, l, "0 0", "-", "-")
	// A nil list is as an empty one.
	none := lp([]string{"2 3 -"})
	for _, y := range [][]string{nil, {}} {
		if a, b := bound(t, none, y, false), bound(t, none, y, true); a != "0" || b != "6" {
			t.Errorf("P14.1, P0.4: Bound of no rows is %q, %q", a, b)
		}
	}
}

// Numbers that fill no word: the answer may have more digits than any of them.
func TestBoundOfLongNumbers(t *testing.T) {
	l := lp([]string{nines + " " + nines + " -", "-" + nines + "/2 - -1/" + nines}, "= "+nines+" -"+nines+" 0")
	agrees(t, l, []string{nines, "-1"}, []string{nines})
	agrees(t, l, []string{nines, "-1"}, []string{"1/" + nines})
	agrees(t, l, []string{nines, "-" + nines}, []string{"0"})
	if text := bound(t, l, []string{nines}, true); len(text) < 5990 {
		t.Errorf("P14.1: Bound of long numbers has %d bytes", len(text))
	}
}
