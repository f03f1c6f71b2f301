package prob_test

import (
	"fmt"
	"slices"
	"strings"
	"testing"

	"victualler/api"
	"victualler/prob"
)

// says holds Fits, Whole, Ray, Value against what is wanted: "fits whole ray
// value", `-` for what is not.
func says(t *testing.T, l api.LP, x, want string) {
	t.Helper()
	p := told(t, l, strings.Fields(x))
	words := []string{"-", "-", "-", "-"}
	for k, is := range []bool{p.fits, p.whole, p.ray} {
		if is {
			words[k] = []string{"fits", "whole", "ray"}[k]
		}
	}
	if p.value != "" {
		words[3] = p.value
	}
	if got := strings.Join(words, " "); got != want {
		t.Errorf("P14.1: of %s, %q: %s, not %s", brief(l), x, got, want)
	}
	if p != asked(l, strings.Fields(x)) {
		t.Errorf("P14.1: of %s, %q: %v, not %v", brief(l), x, p, asked(l, strings.Fields(x)))
	}
}

// Each kind of row at, above and below its right side.
func TestFitsRows(t *testing.T) {
	for kind, wants := range map[string][3]string{"<": {"fits", "fits", "-"}, "=": {"-", "fits", "-"}, ">": {"-", "fits", "fits"}} {
		for k, x := range []string{"2 0", "2 1/2", "2 3/5"} {
			l := lp([]string{"0 - -", "0 - -"}, kind+" 7 3 2")
			says(t, l, x, wants[k]+" whole - 0")
			// Behind a row that holds, and ahead of one.
			l = lp([]string{"0 - -", "0 - -"}, "< 100 1 1", kind+" 7 3 2", "> -100 1 1")
			says(t, l, x, wants[k]+" whole - 0")
		}
		for k, rhs := range []string{"1/3", "0", "-1/3"} {
			says(t, lp(nil, kind+" "+rhs), "", wants[k]+" whole - 0")
			says(t, lp([]string{"1 - -"}, kind+" "+rhs), "5", wants[k]+" whole - 5")
		}
	}
}

// Each bound at, within and beyond it.
func TestFitsBounds(t *testing.T) {
	for bounds, fit := range map[string]string{"- -": "-9 -2 -3/2 -1/2 0 1/2 3/2 2 9", "-3/2 -": "-3/2 -1/2 0 1/2 3/2 2 9", "- 3/2": "-9 -2 -3/2 -1/2 0 1/2 3/2", "-3/2 3/2": "-3/2 -1/2 0 1/2 3/2", "0 -": "0 1/2 3/2 2 9", "- 0": "-9 -2 -3/2 -1/2 0", "0 0": "0", "2 2": "2", "1/2 2": "1/2 3/2 2", "-2 -1/2": "-2 -3/2 -1/2"} {
		for _, x := range []string{"-9", "-2", "-3/2", "-1/2", "0", "1/2", "3/2", "2", "9"} {
			want := "-"
			if slices.Contains(strings.Fields(fit), x) {
				want = "fits"
			}
			says(t, lp([]string{"0 " + bounds}), x, want+" whole - 0")
			says(t, lp([]string{"0 - -", "0 " + bounds, "0 - -"}), "99 "+x+" -99", want+" whole - 0")
			// Ints count for nothing here.
			l := lp([]string{"0 " + bounds + " int"})
			if got := prob.Fits(l, []string{x}); got != (want == "fits") {
				t.Errorf("P14.1: Fits(%s, %s) is %v", brief(l), x, got)
			}
		}
	}
}

// Just Int columns are asked to be whole; neither bounds nor rows are.
func TestWhole(t *testing.T) {
	for _, x := range []string{"-18446744073709551616", "-2", "-1", "0", "1", "7", nines} {
		says(t, lp([]string{"0 0 1 int"}, "= 1/2 1"), x, "- whole - 0")
	}
	for _, x := range []string{"-7/3", "-1/2", "1/2", "1/18446744073709551616", nines + "/2", "18446744073709551617/2"} {
		says(t, lp([]string{"0 - - int"}), x, "fits - - 0")
		says(t, lp([]string{"0 - -"}), x, "fits whole - 0")
		for k := range 8 {
			cols, at := []string{"0 - -", "0 - -", "0 - -"}, []string{"1", "1", "1"}
			for i := range 3 {
				if k>>i&1 == 1 {
					cols[i] += " int"
				}
			}
			for i := range 3 {
				at[i] = x
				want := "whole"
				if k>>i&1 == 1 {
					want = "-"
				}
				says(t, lp(cols), strings.Join(at, " "), "fits "+want+" - 0")
				at[i] = "1"
			}
		}
	}
}

func TestValue(t *testing.T) {
	l := lp([]string{"1 0 5", "-2/3 - 7/2", "0 -1 - int"}, "< 9 1 2 3")
	says(t, l, "0 0 0", "fits whole - 0")
	says(t, l, "1 0 0", "fits whole - 1")
	says(t, l, "0 1 0", "fits whole - -2/3")
	says(t, l, "0 0 1", "fits whole - 0")
	says(t, l, "3 3/2 1/3", "fits - - 2")
	says(t, l, "2 3 99", "- whole - 0")
	says(t, l, "-1 -3 -9", "- whole - 1")
	says(t, l, "1/3 -5/7 1/2", "fits - - 17/21")
	says(t, lp(nil), "", "fits whole - 0")
	says(t, lp([]string{nines + " - -"}), "1/"+nines, "fits whole - 1")
	says(t, lp([]string{"9223372036854775807 - -", "9223372036854775807 - -", "9223372036854775807 - -"}), "1 1 1", "fits whole - 27670116110564327421")
	says(t, lp([]string{"9223372036854775807 - -", "-9223372036854775807 - -"}), "9223372036854775807 9223372036854775807", "fits whole - 0")
}

func TestRay(t *testing.T) {
	// Of bounds it matters where they are, not what they are.
	for _, low := range []string{"-", "-5", "0", "5"} {
		for _, up := range []string{"-", "5", "7"} {
			for x, sign := range map[string]int{"-1/2": -1, "-9": -1, "0": 0, "1/9": 1, "100": 1} {
				ray := low == "-" && sign < 0 || up == "-" && sign > 0 || sign == 0
				// The cost goes down in another column, and the other way round.
				l := lp([]string{"-1 - -", "0 " + low + " " + up})
				if got := prob.Ray(l, []string{"1", x}); got != ray {
					t.Errorf("P14.1: Ray(%s, 1 %s) is %v", brief(l), x, got)
				}
				l = lp([]string{"0 " + low + " " + up, "1 - -"})
				if got := prob.Ray(l, []string{x, "-1"}); got != ray {
					t.Errorf("P14.1: Ray(%s, %s -1) is %v", brief(l), x, got)
				}
			}
		}
	}
	// A row's right side does not matter, but its kind.
	for kind, wants := range map[string][3]string{"<": {"ray", "ray", "-"}, "=": {"-", "ray", "-"}, ">": {"-", "ray", "ray"}} {
		for _, rhs := range []string{"-100", "-1", "0", "1", "100"} {
			for k, r := range []string{"1 -1", "1 -2/3", "1 0"} {
				for _, rows := range [][]string{{kind + " " + rhs + " 2 3"}, {"= 5 0", "< 0 -1", kind + " " + rhs + " 2 3"}, {kind + " " + rhs + " 2 3", "> 0 1 0"}} {
					l := lp([]string{"-1 - -", "0 - -"}, rows...)
					if got := prob.Ray(l, strings.Fields(r)); got != (wants[k] == "ray") {
						t.Errorf("P14.1: Ray(%s, %s) is %v", brief(l), r, got)
					}
				}
			}
		}
	}
	// The costs' sum is below 0, not 0, not above.
	for r, want := range map[string]bool{"1 0": true, "1/9 0": true, "-1 0": false, "0 1": false, "0 -1": true, "1 1": false, "2 1": true, "1 2": false, "0 0": false} {
		l := lp([]string{"-1 - -", "1 - -"}, "< 1", "> -1", "= 0")
		if got := prob.Ray(l, strings.Fields(r)); got != want {
			t.Errorf("P14.1: Ray(%s, %s) is %v", brief(l), r, got)
		}
	}
	if prob.Ray(api.LP{}, nil) {
		t.Error("P14.1: Ray of no columns")
	}
	// Ints do not matter, whole or not; and a Ray need not fit.
	l := lp([]string{"-1 3 - int"}, "> 8 1")
	for _, r := range []string{"1", "1/2", "9"} {
		if !prob.Ray(l, []string{r}) {
			t.Errorf("P14.1: no Ray(%s, %s)", brief(l), r)
		}
	}
}

// points that are no numbers, or not as many as columns, at each place.
func TestPointsThatAreNone(t *testing.T) {
	l := lp([]string{"-1 - -", "0 - -", "-1 - - int"}, "> -9 1 1 1")
	says(t, l, "1 1 1", "fits whole ray -2")
	for n := range 12 {
		want := "- - - -"
		if n == 3 {
			want = "fits whole - 0"
		}
		says(t, l, strings.Repeat("0 ", n), want)
	}
	for k := range 3 {
		for _, s := range noNumbers {
			x := []string{"1", "1", "1"}
			x[k] = s
			if got := told(t, l, x); got != (point{}) {
				t.Errorf("P14.1: of %.60q at %d: %v", s, k, got)
			}
		}
		for _, s := range okNumbers {
			x := []string{"-1", "-1", "-1"}
			x[k] = s
			if got, want := told(t, l, x), asked(l, x); got != want || got.value == "" {
				t.Errorf("P14.1: of %.60q at %d: %.60v, not %.60v", s, k, got, want)
			}
		}
	}
	for _, x := range [][]string{nil, {}, make([]string, 3), make([]string, 1000000), many("1", 1000000), many("1", 1000), many("1", 1001)} {
		if got := told(t, l, x); got != (point{}) {
			t.Errorf("P14.1: of %d texts: %v", len(x), got)
		}
		if got := told(t, api.LP{}, x); got != asked(api.LP{}, x) {
			t.Errorf("P14.1: of %d texts and no columns: %v", len(x), got)
		}
	}
	// As many as columns, not as rows.
	wide := lp([]string{"-1 - -", "-1 - -"}, "< 0 1", "< 0 1", "< 0 1")
	says(t, wide, "-1 2", "fits whole ray -1")
	says(t, wide, "-1 2 2", "- - - -")
}

// All bounds, kinds, costs and points of one column and one row.
func TestPointsOfOneColumn(t *testing.T) {
	numbers := []string{"-2", "-1", "-1/2", "0", "1/2", "1", "2"}
	ends := append([]string{"-"}, numbers...)
	for _, low := range ends {
		for _, up := range ends {
			for k := range 2 {
				col := "-1/2 " + low + " " + up + []string{"", " int"}[k]
				for _, kind := range []string{"<", "=", ">"} {
					for _, rhs := range []string{"-1", "0", "1/2", "2"} {
						for _, v := range []string{"-1", "0", "2"} {
							l := lp([]string{col}, kind+" "+rhs+" "+v)
							for _, x := range numbers {
								agrees(t, l, []string{x}, []string{x})
							}
						}
					}
				}
			}
		}
	}
}

// All small programs of two columns and two rows, at some points.
func TestPointsOfTwoColumns(t *testing.T) {
	d := dice(14)
	ends := []string{"- -", "0 -", "- 1", "-1 1"}
	for n := range 3 * 3 * 81 * 16 {
		kinds := []string{"<", "=", ">"}
		rest, digits := n, []string{}
		for range 4 {
			digits, rest = append(digits, fmt.Sprint(rest%3-1)), rest/3
		}
		first, second := ends[rest%4], ends[rest/4%4]
		rest /= 16
		l := lp([]string{d.number() + " " + first, d.number() + " " + second}, fmt.Sprint(kinds[rest%3], " ", d.number(), " ", digits[0], " ", digits[1]), fmt.Sprint(kinds[rest/3], " ", d.number(), " ", digits[2], " ", digits[3]))
		agrees(t, l, []string{d.number(), d.number()}, []string{d.number(), d.number()})
	}
}
