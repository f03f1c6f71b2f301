package write

import (
	"slices"
	"strconv"

	"victualler/api"
	"victualler/stoch"
	"victualler/words"
)

const (
	discrete  = "DISCRETE"
	rightSide = "RHS"  // the column of right sides
	root      = "ROOT" // the parent of all scenarios
	later     = "THEN" // a period's name, which is not kept
)

// Stoch: see the chapter.
func Stoch(name string, s api.Stoch) (string, bool) {
	// May comes last: its sums of what does not fit could take their time.
	if !words.Name(name) || !fits(s.Groups) || stoch.May(s) != api.OK {
		return "", false
	}
	f := &file{}
	f.head("STOCH", name)
	switch s.Kind {
	case api.KIndep:
		f.values(s.Groups)
	case api.KBlock:
		f.blocks(s.Groups)
	case api.KScen:
		f.scenarios(s.Groups)
	}
	f.head("ENDATA")
	return f.text.String(), true
}

// fits tells whether the cases and entries are not too many, their numbers not
// too long.
func fits(groups []api.Group) bool {
	left := api.MaxWrite
	for _, g := range groups {
		for _, c := range g.Cases {
			left -= 1 + len(c.Es)
			if left < 0 || !short(c.P) || slices.ContainsFunc(c.Es, longEntry) {
				return false
			}
		}
	}
	return true
}

func longEntry(e api.Entry) bool { return !short(e.V) }

func (f *file) values(groups []api.Group) {
	f.head("INDEP", discrete)
	for _, g := range groups {
		for _, c := range g.Cases {
			for _, e := range c.Es {
				f.data(column(e.At), e.At.Row, e.V, c.P)
			}
		}
	}
}

func (f *file) blocks(groups []api.Group) {
	f.head("BLOCKS", discrete)
	for _, g := range groups {
		for _, c := range g.Cases {
			f.data("BL", g.Name, later, c.P)
			f.entries(c.Es)
		}
	}
}

func (f *file) scenarios(groups []api.Group) {
	f.head("SCENARIOS", discrete)
	for _, g := range groups {
		for k, c := range g.Cases {
			f.data("SC", "S"+strconv.Itoa(k), root, later, c.P)
			f.entries(c.Es)
		}
	}
}

func (f *file) entries(es []api.Entry) {
	for _, e := range es {
		f.data(column(e.At), e.At.Row, e.V)
	}
}

func column(at api.Place) string {
	if at.Col == "" {
		return rightSide
	}
	return at.Col
}
