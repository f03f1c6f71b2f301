package core

import (
	"victualler/api"
	"victualler/lit"
	"victualler/words"
)

func (r *reader) bound(ws []string) api.Errno {
	kind := ws[0]
	if len(ws) != boundWords(kind) {
		return api.ErrForm
	}
	place, there := r.cols[ws[2]]
	if !words.Name(ws[1]) || !there {
		return api.ErrName
	}
	limit := ""
	if len(ws) == 4 {
		text, ok := boundText(kind, ws[3])
		if !ok {
			return api.ErrForm
		}
		limit = text
	}
	bind(&r.core.Cols[place], kind, limit)
	return api.OK
}

// boundWords is how many words a line of a kind has; 0: it is no kind.
func boundWords(kind string) int {
	switch kind {
	case "UP", "LO", "FX", "LI", "UI":
		return 4
	case "FR", "MI", "PL", "BV":
		return 3
	}
	return 0
}

// boundText is a bound's number; "": there is no bound.
func boundText(kind, word string) (string, bool) {
	if sign, ok := lit.Inf(word); ok && (kind == "UP" || kind == "LO") {
		return "", (sign > 0) == (kind == "UP")
	}
	x, ok := lit.Get(word)
	return x.Text(), ok
}

// bind gives a column what a line says; limit is "" where the line has none.
func bind(col *api.Col, kind, limit string) {
	switch kind {
	case "UP", "UI", "PL":
		col.Up = limit
	case "LO", "LI", "MI":
		col.Low = limit
	case "FX", "FR":
		col.Low, col.Up = limit, limit
	case "BV":
		col.Low, col.Up = "0", "1"
	}
	if kind == "BV" || kind == "LI" || kind == "UI" {
		col.Int = true
	}
}
