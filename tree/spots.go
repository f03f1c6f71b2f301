package tree

import (
	"iter"
	"slices"

	"victualler/api"
	"victualler/split"
)

// spot is where an entry lies, as split.Place tells it, and the one group that
// may have it.
type spot struct{ kind, row, col, group int }

// spots are those of all entries.
type spots map[api.Place]spot

// spotsOf takes a core and periods that split.Of parts.
func spotsOf(c api.Core, ps []api.Period, groups []api.Group) (spots, api.Errno) {
	names := namesOf(c)
	all, shared := spots{}, false
	for group, at := range placesOf(groups) {
		known, there := all[at]
		if !there {
			kind, row, col, e := split.Place(names, ps, at)
			if e != api.OK {
				return nil, e
			}
			known = spot{kind, row, col, group}
			all[at] = known
		}
		shared = shared || known.group != group
	}
	// Behind all: a place that is nowhere counts ahead of one that is shared.
	if shared {
		return nil, api.ErrName
	}
	return all, api.OK
}

// namesOf is c with the shortest numbers: split.Place reads all of them whenever
// it is asked, and where an entry lies hangs on none.
func namesOf(c api.Core) api.Core {
	c.Rows, c.Cols = slices.Clone(c.Rows), slices.Clone(c.Cols)
	for k, row := range c.Rows {
		c.Rows[k] = api.Row{Name: row.Name, Kind: row.Kind, Rhs: "0"}
		if row.Range != "" {
			c.Rows[k].Range = "0"
		}
	}
	for k, col := range c.Cols {
		c.Cols[k] = api.Col{Name: col.Name, Cost: "0"}
	}
	return c
}

// placesOf are the places of all entries in order, each with its group's place.
func placesOf(groups []api.Group) iter.Seq2[int, api.Place] {
	return func(yield func(int, api.Place) bool) {
		for group, g := range groups {
			for _, c := range g.Cases {
				for _, e := range c.Es {
					if !yield(group, e.At) {
						return
					}
				}
			}
		}
	}
}
