package split

import "victualler/api"

// The kinds of what an entry may change in the second stage.
const (
	aSide = 1 + iota
	aCost
	aTech
	aCoef
)

// spot is where an entry lies, by places in Two.
type spot struct{ kind, row, col int }

// Place: see the chapter.
func Place(c api.Core, ps []api.Period, at api.Place) (kind, row, col int, e api.Errno) {
	s, e := spotOf(c, ps, at)
	return s.kind, s.row, s.col, e
}

func spotOf(c api.Core, ps []api.Period, at api.Place) (spot, api.Errno) {
	b, e := borderOf(c, ps)
	switch {
	case e != api.OK:
		return spot{}, e
	case at.Row == c.Obj:
		return b.costOf(c, at.Col)
	}
	return b.inRow(c, at)
}

func (b border) costOf(c api.Core, name string) (spot, api.Errno) {
	col := colOf(c, name)
	switch {
	case name == "":
		return spot{}, api.ErrKind
	case col < 0:
		return spot{}, api.ErrName
	case col < b.col:
		return spot{}, api.ErrOrder
	}
	return spot{kind: aCost, col: col - b.col}, api.OK
}

func (b border) inRow(c api.Core, at api.Place) (spot, api.Errno) {
	row, col := rowOf(c, at.Row), colOf(c, at.Col)
	switch {
	case row < 0 || col < 0 && at.Col != "":
		return spot{}, api.ErrName
	case row < b.row:
		return spot{}, api.ErrOrder
	case c.Rows[row].Range != "":
		return spot{}, api.ErrKind
	}
	lies := height(c.Rows[b.row:row])
	switch {
	case at.Col == "":
		return spot{aSide, lies, 0}, api.OK
	case col < b.col:
		return spot{aTech, lies, col}, api.OK
	}
	return spot{aCoef, lies, col - b.col}, api.OK
}
