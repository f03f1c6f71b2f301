package write

import (
	"slices"

	"victualler/api"
	"victualler/core"
)

// Words of a core file that stand for nothing and are not kept.
const (
	sides  = "RHS"
	ranges = "RNG"
	bounds = "BND"
	marker = "MARKER"
)

// Core: see the chapter.
func Core(c api.Core) (string, bool) {
	if core.May(c) != api.OK || slices.ContainsFunc(c.Rows, longRow) || slices.ContainsFunc(c.Cols, longCol) {
		return "", false
	}
	f := &file{}
	f.head("NAME", c.Name)
	f.rows(c)
	f.columns(c)
	f.sides(c.Rows)
	f.ranges(c.Rows)
	f.bounds(c.Cols)
	f.head("ENDATA")
	return f.text.String(), true
}

func longRow(row api.Row) bool {
	return !short(row.Rhs, row.Range) || slices.ContainsFunc(row.Coef, func(c api.Coef) bool { return !short(c.V) })
}

func longCol(col api.Col) bool { return !short(col.Low, col.Up, col.Cost) }

func (f *file) rows(c api.Core) {
	f.head("ROWS")
	f.data("N", c.Obj)
	for _, row := range c.Rows {
		f.data(letter(row.Kind), row.Name)
	}
}

func letter(kind int) string {
	switch kind {
	case api.RLess:
		return "L"
	case api.REqual:
		return "E"
	}
	return "G"
}

// columns writes every column's cost, 0 too: a column that has nothing else
// would not be there without it.
func (f *file) columns(c api.Core) {
	f.head("COLUMNS")
	whole := false
	for k, pairs := range pairsOf(c) {
		if col := c.Cols[k]; col.Int != whole {
			whole = col.Int
			f.mark(whole)
		}
		for pair := range slices.Chunk(pairs, 2) {
			f.data(c.Cols[k].Name, pair[0], pair[1])
		}
	}
	if whole {
		f.mark(false)
	}
}

// pairsOf has of each column its rows and numbers, one behind the other.
func pairsOf(c api.Core) [][]string {
	all := make([][]string, len(c.Cols))
	for k, col := range c.Cols {
		all[k] = []string{c.Obj, col.Cost}
	}
	for _, row := range c.Rows {
		for _, x := range row.Coef {
			all[x.Col] = append(all[x.Col], row.Name, x.V)
		}
	}
	return all
}

func (f *file) mark(whole bool) {
	side := "'INTEND'"
	if whole {
		side = "'INTORG'"
	}
	f.data(marker, "'MARKER'", side)
}

func (f *file) sides(rows []api.Row) {
	f.head("RHS")
	for _, row := range rows {
		if row.Rhs != "0" {
			f.data(sides, row.Name, row.Rhs)
		}
	}
}

func (f *file) ranges(rows []api.Row) {
	f.head("RANGES")
	for _, row := range rows {
		if row.Range != "" {
			f.data(ranges, row.Name, row.Range)
		}
	}
}

// bounds writes what is not so of each column without a bound: Low 0, no Up.
func (f *file) bounds(cols []api.Col) {
	f.head("BOUNDS")
	for _, col := range cols {
		switch col.Low {
		case "0":
		case "":
			f.data("MI", bounds, col.Name)
		default:
			f.data("LO", bounds, col.Name, col.Low)
		}
		if col.Up != "" {
			f.data("UP", bounds, col.Name, col.Up)
		}
	}
}
