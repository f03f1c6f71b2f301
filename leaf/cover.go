package leaf

import (
	"victualler/api"
	"victualler/frac"
	"victualler/linear"
)

// maxPlaces is how many nodes there are where MaxNodes of them are parted in two.
const maxPlaces = 2*api.MaxNodes + 1

// cover has the part of a program that each place of a tree is to show; nil: no
// node leads there so far.
type cover struct {
	parts []*linear.Program
	floor *frac.Frac // nil: each leaf is to show that nothing fits
}

func covers(p linear.Program, tree []api.Node, floor string, all bool) bool {
	if len(tree) == 0 || len(tree) > maxPlaces {
		return false
	}
	c := cover{parts: make([]*linear.Program, len(tree))}
	if !all {
		least, ok := frac.Get(floor)
		if !ok {
			return false
		}
		c.floor = least
	}
	c.parts[0] = &p
	for place, n := range tree {
		// Nodes lead on to places behind their own: where none led by now, none will.
		if c.parts[place] == nil || !c.shows(place, n) {
			return false
		}
	}
	return true
}

// shows tells whether a node shows its part itself, or leads on to others that are
// to do so.
func (c cover) shows(place int, n api.Node) bool {
	part := *c.parts[place]
	if n.Col < 0 {
		return part.Crosses() || c.closed(part, n.Dual)
	}
	at, ok := frac.Get(n.At)
	if !ok || !at.Whole() || !part.HasWhole(n.Col) {
		return false
	}
	next := at.Add(frac.Of(1))
	return c.leads(place, n.Left, part.UpTo(n.Col, at)) && c.leads(place, n.Right, part.From(n.Col, next))
}

// closed tells whether a Dual shows that nothing in a part fits, or that nothing
// is worth less than the floor.
func (c cover) closed(part linear.Program, dual []string) bool {
	if bound, ok := part.Bound(dual, false); ok && bound.Sign() > 0 {
		return true
	}
	if c.floor == nil {
		return false
	}
	bound, ok := part.Bound(dual, true)
	return ok && bound.Cmp(c.floor) >= 0
}

// leads puts a part at a place; false: it is not behind the node's own, or another
// node led there.
func (c cover) leads(from, to int, part linear.Program) bool {
	if to <= from || to >= len(c.parts) || c.parts[to] != nil {
		return false
	}
	c.parts[to] = &part
	return true
}
