package mip

import (
	"slices"

	"victualler/api"
	"victualler/corner"
	"victualler/dual"
	"victualler/frac"
)

// search is a tree of parts of a program that grows until none is open.
type search struct {
	whole []int // the columns that are to be whole
	deep  bool
	limit int // of nodes
	tree  []api.Node
	open  []part // by places
	best  *part  // of those whose point is whole the one worth least; nil: none
}

func start(cols []api.Col, deep bool, nodes int) *search {
	s := &search{deep: deep, limit: api.MaxNodes}
	if nodes > 0 {
		s.limit = min(nodes, api.MaxNodes)
	}
	for k, c := range cols {
		if c.Int {
			s.whole = append(s.whole, k)
		}
	}
	return s
}

// part is what bounds leave of a program, solved as if nothing had to be whole.
type part struct {
	state  *dual.State
	answer api.Answer
	fits   bool         // something does; else there is no more than the answer
	x      []*frac.Frac // the numbers of X
	value  *frac.Frac
	place  int // in the tree
}

// solved has a part of an answer that does not go below all.
func solved(state *dual.State, a api.Answer) part {
	p := part{state: state, answer: a, fits: a.Status == api.SOptimal}
	if p.fits {
		p.value = number(a.Value)
	}
	for _, text := range a.X {
		p.x = append(p.x, number(text))
	}
	return p
}

func (s *search) run(root *dual.State, a api.Answer) (api.Answer, []api.Node) {
	s.add(solved(root, a))
	for len(s.open) > 0 {
		p := s.take()
		if s.shown(p) {
			continue
		}
		if len(s.tree)+2 > s.limit {
			return api.Answer{Status: api.SSpent}, nil
		}
		s.grow(p.place, s.fork(p))
	}
	if s.best == nil {
		return api.Answer{Status: api.SInfeasible}, s.tree
	}
	a = s.best.answer
	return api.Answer{Status: api.SOptimal, Value: a.Value, X: a.X}, s.tree
}

// closed tells whether a part has nothing that is worth less than what was found.
func (s *search) closed(p part) bool {
	return !p.fits || s.best != nil && p.value.Cmp(s.best.value) >= 0
}

// shown tells whether a part is closed, and its Dual shows it.
func (s *search) shown(p part) bool {
	return s.closed(p) && (corner.Readable(p.answer.Dual) || len(s.wide(p)) == 0)
}

// take takes the newest part that is open, or else the oldest.
func (s *search) take() part {
	at := 0
	if s.deep {
		at = len(s.open) - 1
	}
	p := s.open[at]
	s.open = slices.Delete(s.open, at, at+1)
	return p
}

// add puts a part behind the tree, a leaf as long as nothing grows from it.
func (s *search) add(p part) {
	p.place = len(s.tree)
	s.tree = append(s.tree, api.Node{Col: -1, Dual: p.answer.Dual})
	if !s.closed(p) && len(s.broken(p)) == 0 {
		s.best = &p
	}
	if !s.shown(p) {
		s.open = append(s.open, p)
	}
}

// broken are the columns that are to be whole, but are not.
func (s *search) broken(p part) []int {
	return s.those(func(k int) bool { return !p.x[k].Whole() })
}

// wide are the columns that are to be whole and have more than one number left.
func (s *search) wide(p part) []int {
	cols := p.state.LP().Cols
	return s.those(func(k int) bool { return cols[k].Low != cols[k].Up })
}

// those are the ones of the columns that are to be whole.
func (s *search) those(are func(k int) bool) (list []int) {
	for _, k := range s.whole {
		if are(k) {
			list = append(list, k)
		}
	}
	return list
}
