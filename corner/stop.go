package corner

import (
	"cmp"
	"slices"

	"victualler/integer"
)

// stop is where a limit comes to one of its ends: how far that is, by how fast
// it goes there, which is above 0.
type stop struct {
	limit int
	gap   measure // not below 0
	rate  integer.Int
}

// sooner says which one comes first; where they come together, which limit does:
// as Bland's rule asks.
func sooner(s, t stop) int {
	order := s.gap.times(t.rate).less(t.gap.times(s.rate)).sign()
	return cmp.Or(order, cmp.Compare(s.limit, t.limit))
}

// halt is where a way ends; false: nowhere.
func (c *Corner) halt(way sums, fits bool) (stop, bool) {
	stops, slope := c.stops(way)
	switch {
	case len(stops) == 0:
		return stop{}, false
	case fits, c.stuck():
		return slices.MinFunc(stops, sooner), true
	}
	// What the limits lack goes less and less down from stop to stop; as it
	// can't go below 0, there is one from where it does not go down.
	slices.SortFunc(stops, sooner)
	for slope = slope.Add(stops[0].rate); slope.Sign() < 0; slope = slope.Add(stops[0].rate) {
		stops = stops[1:]
	}
	return stops[0], true
}

// stops are all that lie ahead, and how fast what the limits lack grows ahead of
// the first of them.
func (c *Corner) stops(way sums) (stops []stop, slope integer.Int) {
	for k, l := range c.limits {
		rate, near, far := way.n[k], l.low, l.up
		if rate.Sign() == 0 {
			continue
		}
		slope = slope.Add(rate.Mul(integer.Of(int64(c.side(k)))))
		if rate.Sign() < 0 {
			near, far = far, near
		}
		if s, ok := c.ahead(k, rate, near); ok && s.gap.sign() > 0 {
			stops = append(stops, s)
		}
		if s, ok := c.ahead(k, rate, far); ok && s.gap.sign() >= 0 {
			stops = append(stops, s)
		}
	}
	return stops, slope
}

// ahead is a stop at an end, its gap below 0 if it lies behind; false: there is
// no such end.
func (c *Corner) ahead(k int, rate integer.Int, end *measure) (stop, bool) {
	if end == nil {
		return stop{}, false
	}
	gap := c.gap(k, end)
	if rate.Sign() < 0 {
		return stop{k, gap.turned(), rate.Neg()}, true
	}
	return stop{k, gap, rate}, true
}

// move goes as far as to a stop.
func (c *Corner) move(way sums, s stop) {
	if s.gap.sign() == 0 {
		c.idle++
		return
	}
	c.idle = 0
	// The way's denominator stands on both sides and falls out.
	var list []integer.Int
	for k, m := range c.at {
		m = m.times(s.rate).plus(s.gap.times(way.n[k]))
		list = append(list, m.n, m.hairs)
	}
	c.over, list = integer.Lowest(c.over.Mul(s.rate), list)
	for k := range c.at {
		c.at[k] = measure{list[2*k], list[2*k+1]}
	}
}
