package stoch

import (
	"victualler/api"
	"victualler/lit"
	"victualler/words"
)

// value reads a line of INDEP: one value of a place.
func (r *reader) value(ws []string) api.Errno {
	if len(ws) != 4 && len(ws) != 5 {
		return api.ErrForm
	}
	at, named := place(ws[0], ws[1])
	v, okV := number(ws[2])
	p, okP := number(ws[len(ws)-1])
	group, there := r.seen[at]
	switch {
	case !named:
		return api.ErrName
	case !okV || !okP:
		return api.ErrForm
	case there && group != r.newest:
		return api.ErrName
	}
	if !there {
		group = r.add("")
	}
	r.open(group, p)
	r.put(at, v)
	return api.OK
}

// caseOrEntry reads a line of BLOCKS or of SCENARIOS.
func (r *reader) caseOrEntry(ws []string) api.Errno {
	switch {
	case r.stoch.Kind == api.KBlock && ws[0] == "BL" && len(ws) == 4:
		return r.block(ws)
	case r.stoch.Kind == api.KScen && ws[0] == "SC" && len(ws) == 5:
		return r.scenario(ws)
	}
	return r.entry(ws)
}

func (r *reader) block(ws []string) api.Errno {
	p, ok := number(ws[3])
	switch {
	case !words.Name(ws[1]) || !words.Name(ws[2]):
		return api.ErrName
	case !ok:
		return api.ErrForm
	}
	group, there := r.names[ws[1]]
	if !there {
		group = r.add(ws[1])
		r.names[ws[1]] = group
	}
	clear(r.seen)
	r.open(group, p)
	return api.OK
}

func (r *reader) scenario(ws []string) api.Errno {
	_, twice := r.names[ws[1]]
	p, ok := number(ws[4])
	switch {
	case twice || !words.Name(ws[1]):
		return api.ErrName
	case ws[2] != root && ws[2] != "'"+root+"'":
		return api.ErrKind
	case !words.Name(ws[3]):
		return api.ErrName
	case !ok:
		return api.ErrForm
	}
	r.names[ws[1]] = theRoot
	clear(r.seen)
	r.open(theRoot, p)
	return api.OK
}

func (r *reader) entry(ws []string) api.Errno {
	switch {
	case r.newest < 0:
		return api.ErrOrder
	case len(ws) != 3:
		return api.ErrForm
	}
	at, named := place(ws[0], ws[1])
	_, twice := r.seen[at]
	v, ok := number(ws[2])
	switch {
	case !named || twice:
		return api.ErrName
	case !ok:
		return api.ErrForm
	}
	r.put(at, v)
	return api.OK
}

// place is what a column's and a row's words name; false: one of them is no name.
func place(col, row string) (api.Place, bool) {
	if !words.Name(col) || !words.Name(row) {
		return api.Place{}, false
	}
	if col == rightSide {
		col = ""
	}
	return api.Place{Col: col, Row: row}, true
}

func number(word string) (string, bool) {
	x, ok := lit.Get(word)
	return x.Text(), ok
}

// add puts a group behind all others, and tells its place.
func (r *reader) add(name string) int {
	r.stoch.Groups = append(r.stoch.Groups, api.Group{Name: name})
	return len(r.stoch.Groups) - 1
}

// open begins a case, the newest one from now on.
func (r *reader) open(group int, p string) {
	g := &r.stoch.Groups[group]
	g.Cases = append(g.Cases, api.Case{P: p})
	r.newest = group
}

// put lays an entry into the newest case.
func (r *reader) put(at api.Place, v string) {
	cases := r.stoch.Groups[r.newest].Cases
	c := &cases[len(cases)-1]
	c.Es = append(c.Es, api.Entry{At: at, V: v})
	r.seen[at] = r.newest
}
