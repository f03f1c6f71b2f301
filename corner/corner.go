// Package corner goes from corner to corner of linear programs: what simplex and
// dual have in common.
package corner

import (
	"victualler/api"
	"victualler/basis"
	"victualler/frac"
	"victualler/integer"
)

// patience is how many steps one behind the other may lead nowhere.
const patience = 8

// Corner is where limits meet, as many as there are columns: these are held.
// The basis has their terms. (It might have the columns of the limits that are
// not held; but of these there are as many as rows, and rows may be more.)
type Corner struct {
	program
	basis *basis.Basis
	held  []int       // by places of the basis
	over  integer.Int // above 0
	at    []measure   // what the terms of all limits come to, times over
	idle  int         // how many of the last steps led nowhere
}

// Start is the corner of a program that may be where all columns are held at an
// end, or at 0.
func Start(l api.LP) *Corner { return start(read(l)) }

func start(p program) *Corner {
	c := &Corner{program: p, basis: basis.New(p.cols), held: make([]int, p.cols)}
	x := make([]*frac.Frac, p.cols)
	for k, l := range p.limits[:p.cols] {
		c.hold(k, k)
		end := l.low
		if end == nil {
			end = l.up
		}
		if end != nil {
			x[k], _ = end.n.By(l.terms[0].n)
		}
	}
	c.stand(x)
	return c
}

// stand goes to where the columns have these numbers.
func (c *Corner) stand(x []*frac.Frac) {
	s := c.sumsOf(x)
	c.over, c.at = s.over, make([]measure, len(s.n))
	for k, n := range s.n {
		c.at[k].n = n
	}
}

// hold puts a limit in a place of the basis; its terms stand alone there.
func (c *Corner) hold(place, k int) {
	col := make([]integer.Int, c.cols)
	for _, t := range c.limits[k].terms {
		col[t.col] = t.n
	}
	c.basis.Put(place, fractions(col))
	c.held[place] = k
}

// outcome is a corner that no way leads on from, by its prices, or else one with
// a way that goes on without an end.
type outcome struct {
	fits    bool // all limits are kept
	prices  []*frac.Frac
	endless bool
	way     sums
}

// run goes from corner to corner along the edges: first to where all limits are
// kept, then to where the costs are least.
func (c *Corner) run() outcome {
	for {
		if c.stuck() && c.ease() {
			c.idle = 0
		}
		fits, aim := c.aim()
		prices := c.basis.Solve(fractions(aim))
		place := c.choose(prices)
		if place < 0 {
			return outcome{fits: fits, prices: prices}
		}
		way := c.away(place, -prices[place].Sign())
		s, ok := c.halt(way, fits)
		if !ok {
			return outcome{fits: fits, endless: true, way: way}
		}
		c.move(way, s)
		if s.limit != c.held[place] {
			c.hold(place, s.limit)
		}
	}
}

// stuck tells whether something has to be done lest the steps go round. Behind
// ease, if that could do anything, it is Bland's rule, always the first that
// there is: it is slow, but never goes round.
func (c *Corner) stuck() bool { return c.idle > patience }

// ease moves ends outward, each by hairs of its own, and tells whether there was
// one to be moved. Where more limits meet than are held, steps may lead nowhere
// and go round; now those meet a hair apart. What fits, and what shows that
// nothing does, is so without the hairs, too, as they all go outward.
func (c *Corner) ease() bool {
	held := make([]bool, len(c.limits))
	for _, k := range c.held {
		held[k] = true
	}
	some := false
	for k, l := range c.limits {
		if !held[k] && !l.fixed() {
			var low, up bool
			l.low, low = l.low.eased(-scattered(k))
			l.up, up = l.up.eased(scattered(k))
			c.limits[k] = l
			some = some || low || up
		}
	}
	return some
}

// scattered are numbers above 0 of which few have sums in common.
func scattered(k int) int64 {
	const prime = 1_048_573
	return int64(1 + (k+1)*(k+1)*(k+1)%prime)
}

// gap is how far a limit is below an end, times over.
func (c *Corner) gap(k int, end *measure) measure { return end.times(c.over).less(c.at[k]) }

// side is -1 of a limit that is below its low, 1 of one above its up, else 0.
func (c *Corner) side(k int) int {
	l := c.limits[k]
	switch {
	case l.low != nil && c.gap(k, l.low).sign() > 0:
		return -1
	case l.up != nil && c.gap(k, l.up).sign() < 0:
		return 1
	}
	return 0
}

// aim is what is to be less: the costs, or, as long as limits are not kept, the
// sum of what they lack.
func (c *Corner) aim() (fits bool, aim []integer.Int) {
	fits, aim = true, make([]integer.Int, c.cols)
	for k, l := range c.limits {
		side := c.side(k)
		if side == 0 {
			continue
		}
		fits = false
		for _, t := range l.terms {
			aim[t.col] = aim[t.col].Add(t.n.Mul(integer.Of(int64(side))))
		}
	}
	if fits {
		return true, c.costs
	}
	return false, aim
}

// choose is the place of a held limit that is to be left, its price telling
// where to; -1: none. Of all that may be left it is the one that is dearest for
// the same distance from it: so a row's factor makes no difference.
func (c *Corner) choose(prices []*frac.Frac) int {
	best, most := -1, frac.Of(0)
	for place, price := range prices {
		k := c.held[place]
		if !c.free(k, -price.Sign()) {
			continue
		}
		worth := price.Mul(price).Mul(c.limits[k].squares)
		if best < 0 || c.stuck() && k < c.held[best] || !c.stuck() && worth.Cmp(most) > 0 {
			best, most = place, worth
		}
	}
	return best
}

// free tells whether a held limit may go that way, which is 1 or -1.
func (c *Corner) free(k, sign int) bool {
	l := c.limits[k]
	switch sign {
	case 1:
		return l.up == nil || c.gap(k, l.up).sign() > 0
	case -1:
		return l.low == nil || c.gap(k, l.low).sign() < 0
	}
	return false
}

// away is the way on which one held limit goes up or down, and no other.
func (c *Corner) away(place, sign int) sums {
	unit := make([]*frac.Frac, c.cols)
	unit[place] = frac.Of(int64(sign))
	return c.sumsOf(c.basis.Turned(unit))
}
