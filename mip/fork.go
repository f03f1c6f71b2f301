package mip

import (
	"cmp"
	"slices"

	"victualler/api"
	"victualler/frac"
)

// tries is how many columns are tried before one is chosen to part by.
const tries = 3

// fork is a part in two: where a column is at most a whole number, and where it is
// at least the next one.
type fork struct {
	col         int
	at          *frac.Frac
	left, right part
}

// fork parts what is not shown yet.
func (s *search) fork(p part) fork {
	if s.closed(p) {
		return s.halve(p)
	}
	return s.choose(p)
}

// choose tries the columns that are farthest from whole, and takes the one that
// leaves the least to be done.
func (s *search) choose(p part) fork {
	cols := p.state.LP().Cols
	list := s.broken(p)
	slices.SortStableFunc(list, func(j, k int) int { return far(p.x[k]).Cmp(far(p.x[j])) })
	var best fork
	var most worth
	for k, col := range list[:min(tries, len(list))] {
		f := p.parted(col, cols[col], p.x[col])
		if w := s.worth(p, f); k == 0 || w.compare(most) > 0 {
			best, most = f, w
		}
	}
	return best
}

// halve parts a closed part whose Dual is too long to be read: the less is left, the
// shorter they are.
func (s *search) halve(p part) fork {
	col := s.wide(p)[0]
	ends := p.state.LP().Cols[col]
	middle, _ := number(ends.Low).Add(number(ends.Up)).Div(frac.Of(2))
	return p.parted(col, ends, middle)
}

// parted parts p by a column of these ends, at the last whole number up to x.
func (p part) parted(col int, ends api.Col, x *frac.Frac) fork {
	at := x.Floor()
	above := at.Add(frac.Of(1))
	return fork{col, at, p.within(col, ends.Low, at.Text()), p.within(col, above.Text(), ends.Up)}
}

func (p part) within(col int, low, up string) part {
	state := p.state.Copy()
	// Where the bounds cross there is no answer: nothing fits, and nothing is to
	// show it.
	answer, _ := state.Bounds(col, low, up)
	return solved(state, answer)
}

// far is how far it is to the nearest whole number.
func far(x *frac.Frac) *frac.Frac {
	down := x.Sub(x.Floor())
	if up := frac.Of(1).Sub(down); up.Cmp(down) < 0 {
		return up
	}
	return down
}

// worth is how much a fork leads on: how many of its parts are closed, and how far
// the values of the others are above that of the whole: both far is better than
// one very far.
type worth struct {
	closed       int
	product, sum *frac.Frac
}

func (s *search) worth(p part, f fork) worth {
	w := worth{product: frac.Of(1)}
	for _, side := range []part{f.left, f.right} {
		if s.closed(side) {
			w.closed++
			continue
		}
		gain := side.value.Sub(p.value)
		w.product, w.sum = w.product.Mul(gain), w.sum.Add(gain)
	}
	return w
}

func (w worth) compare(v worth) int {
	return cmp.Or(cmp.Compare(w.closed, v.closed), w.product.Cmp(v.product), w.sum.Cmp(v.sum))
}

// grow makes a leaf of the tree lead on to the parts of a fork. The one that is more
// likely to have what is worth least is the newest then.
func (s *search) grow(place int, f fork) {
	n := api.Node{Col: f.col, At: f.at.Text(), Left: len(s.tree), Right: len(s.tree) + 1}
	older, newer := f.left, f.right
	if s.likelier(f.left, f.right) {
		older, newer = newer, older
		n.Left, n.Right = n.Right, n.Left
	}
	s.tree[place] = n
	s.add(older)
	s.add(newer)
}

func (s *search) likelier(p, than part) bool {
	return !s.closed(p) && (s.closed(than) || p.value.Cmp(than.value) < 0)
}
