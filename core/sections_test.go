package core_test

import (
	"fmt"
	"strings"
	"testing"

	"victualler/api"
	"victualler/core"
)

// columnsOf tells the columns of a file whose COLUMNS go on with lines.
func columnsOf(t *testing.T, lines string) string {
	t.Helper()
	c, line, e := core.Get(inColumns + lines + "RHS\nENDATA")
	if e != api.OK || core.May(c) != api.OK {
		return fmt.Sprint(line-strings.Count(inColumns, "\n"), " ", e)
	}
	told := ""
	for _, row := range c.Rows {
		told += fmt.Sprint(row.Coef)
	}
	return told + fmt.Sprint(c.Cols)
}

func TestGetsColumns(t *testing.T) {
	for lines, want := range map[string]string{
		"":                                   "[{0 2}][][][{x 0  1 false}]",
		" y c 3\n":                           "[{0 2}][][][{x 0  1 false} {y 0  3 false}]",
		" y t 3 r 4\n":                       "[{0 2} {1 4}][][{1 3}][{x 0  1 false} {y 0  0 false}]",
		" y t 3\n y r 4\n y c 5 s 6\n":       "[{0 2} {1 4}][{1 6}][{1 3}][{x 0  1 false} {y 0  5 false}]",
		" x s 3 t 4\n y r 5\n z r 6\n":       "[{0 2} {1 5} {2 6}][{0 3}][{0 4}][{x 0  1 false} {y 0  0 false} {z 0  0 false}]",
		" y c 0 r 0\n z s 0\n z t 1\n":       "[{0 2}][][{2 1}][{x 0  1 false} {y 0  0 false} {z 0  0 false}]",
		" y r 0 s -0.0\n y t 0e5\n":          "[{0 2}][][][{x 0  1 false} {y 0  0 false}]",
		" y c -2.5 r +.5\n y s 1e2 t -3/7\n": "[{0 2} {1 1/2}][{1 100}][{1 -3/7}][{x 0  1 false} {y 0  -5/2 false}]",
		" y r 1e30 s -1E30\n":                "[{0 2} {1 1" + strings.Repeat("0", 30) + "}][{1 -1" + strings.Repeat("0", 30) + "}][][{x 0  1 false} {y 0  0 false}]",
		" y r " + number40 + "\n":            "[{0 2} {1 " + number40 + "}][][][{x 0  1 false} {y 0  0 false}]",
		" y c 1e100 r 1e-100\n":              "[{0 2} {1 1/1" + strings.Repeat("0", 100) + "}][][][{x 0  1 false} {y 0  1" + strings.Repeat("0", 100) + " false}]",
		" " + name20 + " c 1\n":              "[{0 2}][][][{x 0  1 false} {" + name20 + " 0  1 false}]",
		" X c 1\n rhs c 2\n RHS. c 3\n":      "[{0 2}][][][{x 0  1 false} {X 0  1 false} {rhs 0  2 false} {RHS. 0  3 false}]",
		" r r 1\n c c 2\n T s 3\n":           "[{0 2} {1 1}][{3 3}][][{x 0  1 false} {r 0  0 false} {c 0  2 false} {T 0  0 false}]",
	} {
		if got := columnsOf(t, lines); got != want {
			t.Errorf("P8.2: columns of %q are %s, not %s", lines, got, want)
		}
	}
}

func TestGetsWrongColumns(t *testing.T) {
	for _, lines := range []string{
		" y", " y c", " y c 1 r", " y c 1 r 2 s", " y c 1 r 2 s 3", " y 'MARKER'", " y c x", " y c 1 r x", " y r 1 s 1e101", " y r inf", " y r -inf", " y r 2/4", " y r --1", " y r 1" + number40, " y r 'INTORG'",
		// So many words ahead of what is wrong with them, and words from the left.
		" RHS", " RHS q", " RHS q x s", " " + long + " q", " " + long + " q x q", " q q q q q q", " x q", " y q 1 q", " y r x q 1", " y r x r 1", " y c x c x", " y r x 'MARKER' 1", " x t x r 1",
	} {
		wrong(t, inColumns+lines, api.ErrForm)
	}
	for _, lines := range []string{
		" RHS c 1", " RHS q 1", " RHS q x", " RHS c x", " " + long + " c 1", " " + long + " c x", " y q 1", " y q x", " y c 1 q 1", " y c 1 q x", " y C 1", " y x 1", " y T 1", " y RHS 1", " y " + long + " 1", " y c 1 'MARKER' 1", " M 'MARKER' 5 c 1", " M 'MARKER' 'INTORG' c 1", " y 'marker' 1", " y MARKER 'INTORG'",
		" y c 1 c 2", " y c 1 c x", " y r 1 r 1", " y r 0 r 0", " y r 0 r 1", " y c 0 c 0", " x c 1", " x r 2", " x r x", " x s 1 r 1", " x s 1 r x", " x s 1\n x s 1", " x s 0\n x s 1", " y r 1\n y s 2\n y r 1", " y s 1 t 2\n y t 2", " y c 1\n y r 1 c 1",
		" y c 2\n x s 1", " y c 2\n x q x", " y c 2\n z c 2\n y s 1", " y c 2\n z c 2\n x s 1",
	} {
		wrong(t, inColumns+lines, api.ErrName)
	}
	// Another column has all rows anew.
	right(t, inColumns+" y c 1 r 2\n y s 3 t 4\n z c 5 r 6\n z s 7 t 8\nRHS\n", "{T c [{r 1 [{0 2} {1 2} {2 6}] 0 } {s 3 [{1 3} {2 7}] 0 } {t 2 [{1 4} {2 8}] 0 }] [{x 0  1 false} {y 0  1 false} {z 0  5 false}]}")
}

func TestGetAtTheNumberOfColumns(t *testing.T) {
	full := inRows + "COLUMNS\n" + some(40, " x%d c 1\n")
	c := right(t, full+" x39 r 2\nRHS\n", "{T c [{r 1 [{39 2}] 0 } {s 3 [] 0 } {t 2 [] 0 }] ["+strings.TrimSpace(some(40, "{x%d 0  1 false} "))+"]}")
	if len(c.Cols) != 40 {
		t.Errorf("P8.2: %d columns, not 40", len(c.Cols))
	}
	wrong(t, full+" y c 1", api.ErrLimit)
	wrong(t, full+" x39 r 2\n y c 1", api.ErrLimit)
	wrong(t, full+" M 'MARKER' 'INTORG'\n y c 1", api.ErrLimit)
	// The column is the first word: what is wrong with it comes ahead of the others.
	wrong(t, full+" y q x", api.ErrLimit)
	wrong(t, full+" y c", api.ErrForm)
	wrong(t, full+" y c 1 r", api.ErrForm)
	wrong(t, full+" RHS c 1", api.ErrName)
	wrong(t, full+" "+long+" c 1", api.ErrName)
	wrong(t, full+" x38 r 1", api.ErrName)
	wrong(t, full+" x39 c 1", api.ErrName)
	right(t, inRows+"COLUMNS\n"+some(39, " x%d c 1\n")+" y c 1\nRHS\n", "{T c [{r 1 [] 0 } {s 3 [] 0 } {t 2 [] 0 }] ["+some(39, "{x%d 0  1 false} ")+"{y 0  1 false}]}")
}

const (
	org = " M 'MARKER' 'INTORG'\n"
	fin = " M 'MARKER' 'INTEND'\n"
)

func TestGetsMarkers(t *testing.T) {
	for lines, want := range map[string]string{
		org: "[{x 0  1 false}]", org + fin: "[{x 0  1 false}]", org + fin + org: "[{x 0  1 false}]",
		org + " y c 2\n":                                             "[{x 0  1 false} {y 0  2 true}]",
		org + " y c 2\n" + fin:                                       "[{x 0  1 false} {y 0  2 true}]",
		org + " y c 2\n z c 3\n" + fin + " w c 4\n":                  "[{x 0  1 false} {y 0  2 true} {z 0  3 true} {w 0  4 false}]",
		org + " y c 2\n" + fin + org + " z c 3\n" + fin:              "[{x 0  1 false} {y 0  2 true} {z 0  3 true}]",
		org + fin + " y c 2\n":                                       "[{x 0  1 false} {y 0  2 false}]",
		org + " y c 2\n" + fin + " z c 3\n" + org + " w c 4\n" + fin: "[{x 0  1 false} {y 0  2 true} {z 0  3 false} {w 0  4 true}]",
		// Any word stands ahead, names that are there already and what is no Name too.
		" x 'MARKER' 'INTORG'\n y c 2\n RHS 'MARKER' 'INTEND'\n z c 3\n":                 "[{x 0  1 false} {y 0  2 true} {z 0  3 false}]",
		" " + long + " 'MARKER' 'INTORG'\n y c 2\n 'MARKER' 'MARKER' 'INTEND'\n M c 3\n": "[{x 0  1 false} {y 0  2 true} {M 0  3 false}]",
		" y 'MARKER' 'INTORG'\n y c 2\n":                                                 "[{x 0  1 false} {y 0  2 true}]",
		// A column's lines stand together, markers between aside; it is where it begins.
		org + " x s 3\n": "[{x 0  1 false}]",
		org + " x s 3\n" + fin + " x t 4\n y c 2\n":         "[{x 0  1 false} {y 0  2 false}]",
		" y c 2\n" + org + " y s 3\n z c 1\n":               "[{x 0  1 false} {y 0  2 false} {z 0  1 true}]",
		org + " y c 2\n" + fin + " y s 3\n z c 1\n":         "[{x 0  1 false} {y 0  2 true} {z 0  1 false}]",
		org + " y c 2\n" + fin + org + fin + " y s 3 r 1\n": "[{x 0  1 false} {y 0  2 true}]",
	} {
		got := columnsOf(t, lines)
		if _, cols, _ := strings.Cut(got, "[{x"); "[{x"+cols != want {
			t.Errorf("P8.2: columns of %q are %s, not %s", lines, got, want)
		}
	}
	for _, lines := range []string{fin, org + org, org + fin + fin, org + " y c 1\n" + org, org + " y c 1\n" + fin + " z c 1\n" + fin, org + fin + org + org, " N 'MARKER' 'INTEND'\n"} {
		wrong(t, inColumns+strings.TrimSuffix(lines, "\n"), api.ErrOrder)
		wrong(t, inRows+"COLUMNS\n"+strings.TrimSuffix(lines, "\n"), api.ErrOrder)
	}
	for _, third := range []string{"'INT'", "INTORG", "INTEND", "'intorg'", "'INTORG", "'INTORG''", "5", "'MARKER'", "'SOSORG'", long} {
		for _, first := range []string{"M", "x", "RHS", long} {
			wrong(t, inColumns+" "+first+" 'MARKER' "+third, api.ErrForm)
			wrong(t, inColumns+org+" "+first+" 'MARKER' "+third, api.ErrForm)
		}
	}
	// Between lines of one column no row comes twice either, and none comes again.
	wrong(t, inColumns+org+" x r 2", api.ErrName)
	wrong(t, inColumns+org+" y s 2\n"+fin+" x s 2", api.ErrName)
	wrong(t, inColumns+" y s 2\n"+org+fin+" y t 1 s 2", api.ErrName)
	// A marker counts under COLUMNS alone.
	wrong(t, inRHS+" M 'MARKER' 'INTORG'", api.ErrName)
	wrong(t, inRows+" M 'MARKER' 'INTORG'", api.ErrForm)
}

// RHS and RANGES are read alike; put tells where the numbers go.
func TestGetsSides(t *testing.T) {
	for _, at := range []struct {
		text string
		none string
		put  func(row api.Row) string
	}{{inRHS, "0", func(row api.Row) string { return row.Rhs }}, {inRanges, "", func(row api.Row) string { return row.Range }}, {inRHS + " R r 1 s 2\n R t 3\nRANGES\n", "", func(row api.Row) string { return row.Range }}} {
		for lines, want := range map[string][3]string{
			"": {at.none, at.none, at.none}, " R r 1\n": {"1", at.none, at.none}, " R t 1 s 2\n": {at.none, "2", "1"}, " R t 1 s 2\n R r 3\n": {"3", "2", "1"}, " R t 1\n S s 2\n R r 3\n": {"3", "2", "1"}, " RHS r 0 s -0.\n": {"0", "0", at.none},
			" " + name20 + " r -2.5 s 1e30\n": {"-5/2", "1" + strings.Repeat("0", 30), at.none}, " r r 7/3\n": {"7/3", at.none, at.none}, " 'MARKER' r -1e-2\n": {"-1/100", at.none, at.none}, " 5 r " + number40 + "\n": {number40, at.none, at.none},
		} {
			c, line, e := core.Get(at.text + lines + "ENDATA")
			if e != api.OK || core.May(c) != api.OK {
				t.Fatalf("P8.2: Get of %q is line %d, error %d", lines, line, e)
			}
			for k, row := range c.Rows {
				if got := at.put(row); got != want[k] {
					t.Errorf("P8.2: %q: the number of row %d is %q, not %q", lines, k, got, want[k])
				}
			}
		}
		for _, line := range []string{" R", " R r", " R r 1 s", " R r 1 s 2 t", " R r 1 s 2 t 3", " r 1", " " + long, " " + long + " r", " R c", " R q", " R c 1 q", " R q x q q q", " R r x", " R r inf", " R r -inf", " R r 2/4", " R r 1 s x", " R r 1e101", " R r 1" + number40, " R r x c 1", " R r x q 1", " R r x r 1"} {
			wrong(t, at.text+line, api.ErrForm)
		}
		for _, line := range []string{" R q 1", " R q x", " R R 1", " R x 1", " R T 1", " R r 1 q 1", " R r 1 q x", " R " + long + " 1", " " + long + " r 1", " " + long + " c 1", " " + long + " r x", " " + long + " q x", " R r 1 r 1", " R r 1 r 2", " R r 0 r 0", " R r 1 r x", " R r 1\n R r 1", " R r 1\n S r 2", " R r 0\n R s 1 r 2", " R r 1 s 2\n R t 1\n R s 2", " R q 1 c 1"} {
			wrong(t, at.text+line, api.ErrName)
		}
		for _, line := range []string{" R c 1", " R c 0", " R c x", " R r 1 c 1", " R r 1 c x", " R c 1 q 1", " R c 1 c 1", " R s 1\n R c 1"} {
			wrong(t, at.text+line, api.ErrKind)
		}
	}
}
