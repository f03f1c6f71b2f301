package corner

import (
	"slices"

	"victualler/api"
)

// What changes a program makes another Corner of it, so that one may be kept while
// others go on from it: no list that two of them have is written.

// WithRow is where c is, but of a program that has a row more, behind all others.
func (c *Corner) WithRow(r api.Row) *Corner {
	next := c.copied()
	next.limits = append(next.limits, ofRow(r))
	next.stand(c.point())
	return next
}

// WithCol is where c is, but of a program whose column k has the bounds of col. (It
// need not be at an end of these, even if it is held: the next step from there may
// lead either way.)
func (c *Corner) WithCol(k int, col api.Col) *Corner {
	next := c.copied()
	next.limits[k] = ofCol(k, col)
	if place := slices.Index(next.held, k); place >= 0 {
		// By other bounds its terms may have another factor.
		next.hold(place, k)
	}
	next.stand(c.point())
	return next
}

// copied is a Corner that has nothing to stand on yet, its ends without hairs:
// where steps lead nowhere again there will be others.
func (c *Corner) copied() *Corner {
	own := *c.basis
	next := &Corner{program: c.program, basis: &own, held: slices.Clone(c.held)}
	next.limits = slices.Clone(c.limits)
	for k, l := range next.limits {
		next.limits[k].low, next.limits[k].up = l.low.bare(), l.up.bare()
	}
	return next
}
