package core

import (
	"victualler/api"
	"victualler/words"
)

// The sections of a file, in the order of their Heads.
const (
	atStart = iota // ahead of all Heads
	atName
	atRows
	atColumns
	atSides
	atRanges
	atBounds
	atEnd
)

// objective stands for Obj where a row's place does.
const objective = -1

// reader reads a file line by line. What it has read when a line is wrong is of
// no use any more.
type reader struct {
	core    api.Core
	section int
	rows    map[string]int      // places in core.Rows, or objective
	cols    map[string]int      // places in core.Cols
	given   map[string]struct{} // rows that the column, or the section, has a number for
	whole   bool                // the last marker is INTORG
}

// Get: see the chapter.
func Get(text string) (api.Core, int, api.Errno) {
	lines, no, e := words.Get(text)
	if e != api.OK {
		return api.Core{}, no, e
	}
	r := &reader{rows: map[string]int{}, cols: map[string]int{}, given: map[string]struct{}{}}
	for _, line := range lines {
		if e := r.line(line); e != api.OK {
			return api.Core{}, line.No, e
		}
		if r.section == atEnd {
			return r.core, 0, api.OK
		}
	}
	return api.Core{}, 0, api.ErrOrder
}

func (r *reader) line(line words.Line) api.Errno {
	if line.Head {
		return r.head(line.Words)
	}
	switch r.section {
	case atRows:
		return r.row(line.Words)
	case atColumns:
		return r.column(line.Words)
	case atSides, atRanges:
		return r.side(line.Words)
	case atBounds:
		return r.bound(line.Words)
	}
	return api.ErrOrder
}

func (r *reader) head(ws []string) api.Errno {
	to, ok := sectionOf(ws[0])
	if !ok || !follows(r.section, to) {
		return api.ErrOrder
	}
	if len(ws) != headWords(to) {
		return api.ErrForm
	}
	switch to {
	case atName:
		if !words.Name(ws[1]) {
			return api.ErrName
		}
		r.core.Name = ws[1]
	case atColumns:
		if r.core.Obj == "" {
			return api.ErrOrder
		}
	}
	r.section = to
	clear(r.given)
	return api.OK
}

func sectionOf(head string) (int, bool) {
	switch head {
	case "NAME":
		return atName, true
	case "ROWS":
		return atRows, true
	case "COLUMNS":
		return atColumns, true
	case rightSide:
		return atSides, true
	case "RANGES":
		return atRanges, true
	case "BOUNDS":
		return atBounds, true
	case "ENDATA":
		return atEnd, true
	}
	return 0, false
}

// follows tells whether a section may stand behind another one: just those
// between the right sides and the end may be left out.
func follows(from, to int) bool {
	return to == from+1 || from >= atSides && to > from
}

func headWords(section int) int {
	if section == atName {
		return 2
	}
	return 1
}

func (r *reader) row(ws []string) api.Errno {
	kind, ok := kindOf(ws[0])
	if !ok || len(ws) != 2 {
		return api.ErrForm
	}
	if kind == objective && r.core.Obj != "" {
		return api.ErrKind
	}
	name := ws[1]
	if _, twice := r.rows[name]; twice || !rowName(name) {
		return api.ErrName
	}
	if kind == objective {
		r.core.Obj = name
		r.rows[name] = objective
		return api.OK
	}
	if len(r.core.Rows) == mostRows {
		return api.ErrLimit
	}
	r.rows[name] = len(r.core.Rows)
	r.core.Rows = append(r.core.Rows, api.Row{Name: name, Kind: kind, Rhs: "0"})
	return api.OK
}

// kindOf is a row's kind; objective of N.
func kindOf(word string) (int, bool) {
	switch word {
	case "N":
		return objective, true
	case "L":
		return api.RLess, true
	case "E":
		return api.REqual, true
	case "G":
		return api.RMore, true
	}
	return 0, false
}
