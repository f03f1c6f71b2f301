package stoch

import (
	"victualler/api"
	"victualler/words"
)

// The sections of a file, in the order of their Heads; one of three stands
// atGroups.
const (
	atStart = iota // ahead of all Heads
	atName
	atGroups
	atEnd
)

// theRoot is the place of the one group of SCENARIOS.
const theRoot = 0

// reader reads a file line by line. What it has read when a line is wrong is of
// no use any more.
type reader struct {
	name    string
	stoch   api.Stoch
	section int
	names   map[string]int    // groups of blocks, or of scenarios
	seen    map[api.Place]int // groups of all places of INDEP, else of the newest case's
	newest  int               // the newest case's group; below 0: there is no case
}

// Get: see the chapter.
func Get(text string) (string, api.Stoch, int, api.Errno) {
	lines, no, e := words.Get(text)
	if e != api.OK {
		return "", api.Stoch{}, no, e
	}
	r := &reader{names: map[string]int{}, seen: map[api.Place]int{}, newest: -1}
	for _, line := range lines {
		if e := r.line(line); e != api.OK {
			return "", api.Stoch{}, line.No, e
		}
		if r.section == atEnd {
			return r.answer()
		}
	}
	return "", api.Stoch{}, 0, api.ErrOrder
}

func (r *reader) answer() (string, api.Stoch, int, api.Errno) {
	if e := May(r.stoch); e != api.OK {
		return "", api.Stoch{}, 0, e
	}
	return r.name, r.stoch, 0, api.OK
}

func (r *reader) line(line words.Line) api.Errno {
	switch {
	case line.Head:
		return r.head(line.Words)
	case r.section != atGroups:
		return api.ErrOrder
	case r.stoch.Kind == api.KIndep:
		return r.value(line.Words)
	}
	return r.caseOrEntry(line.Words)
}

func (r *reader) head(ws []string) api.Errno {
	kind := kindOf(ws[0])
	switch {
	case ws[0] == "STOCH" && r.section == atStart:
		return r.title(ws)
	case kind != 0 && r.section != atStart:
		return r.kind(kind, ws)
	case ws[0] == "ENDATA" && r.section == atGroups:
		return r.end(ws)
	}
	return api.ErrOrder
}

// kindOf is the Kind that a Head names; 0: it names none.
func kindOf(head string) int {
	switch head {
	case "INDEP":
		return api.KIndep
	case "BLOCKS":
		return api.KBlock
	case "SCENARIOS":
		return api.KScen
	}
	return 0
}

func (r *reader) title(ws []string) api.Errno {
	switch {
	case len(ws) != 2:
		return api.ErrForm
	case !words.Name(ws[1]):
		return api.ErrName
	}
	r.name, r.section = ws[1], atName
	return api.OK
}

func (r *reader) kind(kind int, ws []string) api.Errno {
	switch {
	case len(ws) != 2:
		return api.ErrForm
	case r.section == atGroups || ws[1] != "DISCRETE":
		return api.ErrKind
	}
	r.stoch.Kind, r.section = kind, atGroups
	if kind == api.KScen {
		r.stoch.Groups = []api.Group{{Name: root}}
	}
	return api.OK
}

func (r *reader) end(ws []string) api.Errno {
	if len(ws) != 1 {
		return api.ErrForm
	}
	r.section = atEnd
	return api.OK
}
