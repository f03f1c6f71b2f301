package linear

import (
	"slices"

	"victualler/frac"
)

// HasWhole tells whether there is a column k, and it is to be whole.
func (p Program) HasWhole(k int) bool { return k >= 0 && k < len(p.cols) && p.cols[k].whole }

// UpTo is the part of a program where a column is at most so much.
func (p Program) UpTo(k int, most *frac.Frac) Program {
	p.cols = slices.Clone(p.cols)
	if c := &p.cols[k]; c.up == nil || c.up.Cmp(most) > 0 {
		c.up = most
	}
	return p
}

// From is the part of a program where a column is at least so much.
func (p Program) From(k int, least *frac.Frac) Program {
	p.cols = slices.Clone(p.cols)
	if c := &p.cols[k]; c.low == nil || c.low.Cmp(least) < 0 {
		c.low = least
	}
	return p
}

// Crosses tells whether bounds of a part leave a column nothing.
func (p Program) Crosses() bool { return slices.ContainsFunc(p.cols, column.crosses) }
