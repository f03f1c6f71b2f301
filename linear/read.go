// Package linear has linear programs that may be, their texts read once: what
// prob and leaf have in common.
package linear

import (
	"victualler/api"
	"victualler/frac"
	"victualler/vec"
)

// Program is a linear program that may be.
type Program struct {
	cols  []column
	rows  []row
	costs *vec.Vec // by columns
	rhs   *vec.Vec // by rows
}

// column has nil for a bound that is none (it does not count as 0 here).
type column struct {
	low, up *frac.Frac
	whole   bool
}

type row struct {
	kind  int
	coefs *vec.Vec
}

// Read reads a program; false: it may not be.
func Read(l api.LP) (Program, bool) {
	if len(l.Cols) > api.MaxWide || len(l.Rows) > api.MaxTall {
		return Program{}, false
	}
	var p Program
	var costs, rhs []string
	for _, c := range l.Cols {
		col, ok := readCol(c)
		if !ok {
			return Program{}, false
		}
		p.cols, costs = append(p.cols, col), append(costs, c.Cost)
	}
	for _, r := range l.Rows {
		one, ok := readRow(r, len(l.Cols))
		if !ok {
			return Program{}, false
		}
		p.rows, rhs = append(p.rows, one), append(rhs, r.Rhs)
	}
	var okCosts, okRhs bool
	p.costs, okCosts = numbers(costs, len(costs))
	p.rhs, okRhs = numbers(rhs, len(rhs))
	if !okCosts || !okRhs {
		return Program{}, false
	}
	return p, true
}

func readCol(c api.Col) (column, bool) {
	low, okLow := readEnd(c.Low)
	up, okUp := readEnd(c.Up)
	col := column{low, up, c.Int}
	if !okLow || !okUp || col.crosses() {
		return column{}, false
	}
	return col, true
}

// readEnd reads a bound, nil if it is none.
func readEnd(s string) (*frac.Frac, bool) {
	if s == "" {
		return nil, true
	}
	return frac.Get(s)
}

// crosses tells whether the low one of two bounds is above the other.
func (c column) crosses() bool { return c.low != nil && c.up != nil && c.low.Cmp(c.up) > 0 }

// readRow reads a row of so many columns, but its right side.
func readRow(r api.Row, cols int) (row, bool) {
	if r.Kind < api.RLess || r.Kind > api.RMore || r.Range != "" || !rising(r.Coef, cols) {
		return row{}, false
	}
	coefs, ok := vec.New(r.Coef...)
	// A vector leaves out each Coef of 0.
	if !ok || coefs.Len() < len(r.Coef) {
		return row{}, false
	}
	return row{r.Kind, coefs}, true
}

// rising tells whether Coefs are by rising columns, of so many.
func rising(cs []api.Coef, cols int) bool {
	last := -1
	for _, c := range cs {
		if c.Col <= last || c.Col >= cols {
			return false
		}
		last = c.Col
	}
	return true
}

// numbers reads texts that must be so many numbers, each by its place. A vector
// has places for more than the rows of any program that may be.
func numbers(texts []string, count int) (*vec.Vec, bool) {
	if len(texts) != count {
		return nil, false
	}
	cs := make([]api.Coef, count)
	for k, s := range texts {
		cs[k] = api.Coef{Col: k, V: s}
	}
	return vec.New(cs...)
}

// Point reads a number for each column.
func (p Program) Point(x []string) (*vec.Vec, bool) { return numbers(x, len(p.cols)) }
