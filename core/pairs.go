package core

import (
	"slices"

	"victualler/api"
	"victualler/lit"
	"victualler/words"
)

// hasPairs tells whether a line is a word and one or two pairs.
func hasPairs(ws []string) bool { return len(ws) == 3 || len(ws) == 5 }

func (r *reader) column(ws []string) api.Errno {
	if len(ws) == 3 && ws[1] == marker {
		return r.mark(ws[2])
	}
	if !hasPairs(ws) {
		return api.ErrForm
	}
	if e := r.open(ws[0]); e != api.OK {
		return e
	}
	return r.pairs(ws[1:])
}

func (r *reader) mark(word string) api.Errno {
	whole := word == "'INTORG'"
	if !whole && word != "'INTEND'" {
		return api.ErrForm
	}
	// Ahead of all markers it is as behind an INTEND.
	if whole == r.whole {
		return api.ErrOrder
	}
	r.whole = whole
	return api.OK
}

// open sees to it that a column is the last one: a line of it goes on, or it is
// new. Whether it is Int hangs on where it begins.
func (r *reader) open(name string) api.Errno {
	place, there := r.cols[name]
	if there && place == len(r.core.Cols)-1 {
		return api.OK
	}
	if there || !colName(name) {
		return api.ErrName
	}
	if len(r.core.Cols) == mostCols {
		return api.ErrLimit
	}
	r.cols[name] = len(r.core.Cols)
	r.core.Cols = append(r.core.Cols, api.Col{Name: name, Low: "0", Cost: "0", Int: r.whole})
	clear(r.given)
	return api.OK
}

// side reads a line of RHS or of RANGES.
func (r *reader) side(ws []string) api.Errno {
	switch {
	case !hasPairs(ws):
		return api.ErrForm
	case !words.Name(ws[0]):
		return api.ErrName
	}
	return r.pairs(ws[1:])
}

func (r *reader) pairs(ws []string) api.Errno {
	for pair := range slices.Chunk(ws, 2) {
		place, e := r.give(pair[0])
		if e != api.OK {
			return e
		}
		x, ok := lit.Get(pair[1])
		if !ok {
			return api.ErrForm
		}
		r.put(place, x.Text())
	}
	return api.OK
}

// give is the place of a row that has no number yet, and has one from now on.
func (r *reader) give(row string) (int, api.Errno) {
	place, there := r.rows[row]
	_, twice := r.given[row]
	switch {
	case !there || twice:
		return 0, api.ErrName
	case place == objective && r.section != atColumns:
		return 0, api.ErrKind
	}
	r.given[row] = struct{}{}
	return place, api.OK
}

// put lays a number where the section has it: to a row or, in COLUMNS, to the
// last column's coefficients and its cost.
func (r *reader) put(place int, v string) {
	col := len(r.core.Cols) - 1
	switch {
	case r.section == atSides:
		r.core.Rows[place].Rhs = v
	case r.section == atRanges:
		r.core.Rows[place].Range = v
	case place == objective:
		r.core.Cols[col].Cost = v
	case v != "0":
		row := &r.core.Rows[place]
		row.Coef = append(row.Coef, api.Coef{Col: col, V: v})
	}
}
