package corner

import (
	"slices"

	"victualler/api"
	"victualler/frac"
	"victualler/integer"
)

// Solve goes to where the costs are least, and tells so in simplex.Solve's words.
func (c *Corner) Solve() api.Answer {
	switch o := c.run(); {
	case !o.fits:
		return api.Answer{Status: api.SInfeasible, Dual: multiple(c.against(o.prices))}
	case o.endless:
		return api.Answer{Status: api.SUnbounded, X: texts(c.point()), Ray: multiple(c.columns(o.way))}
	default:
		return c.optimal(o.prices)
	}
}

func (c *Corner) optimal(prices []*frac.Frac) api.Answer {
	x, value, dual := c.point(), frac.Of(0), c.dual(prices)
	for k, cost := range fractions(c.costs) {
		value = value.Add(cost.Mul(x[k]))
	}
	value, _ = value.Div(c.factor)
	for k, y := range dual {
		dual[k], _ = y.Div(c.factor)
	}
	return api.Answer{Status: api.SOptimal, Value: value.Text(), X: texts(x), Dual: texts(dual)}
}

// point has the columns' numbers at the corner.
func (c *Corner) point() []*frac.Frac {
	s := sums{over: c.over}
	for _, m := range c.at[:c.cols] {
		s.n = append(s.n, m.n)
	}
	return c.columns(s)
}

// columns are the numbers of the columns in sums of all limits.
func (p program) columns(s sums) []*frac.Frac {
	x := make([]*frac.Frac, p.cols)
	for k := range x {
		n, _ := s.n[k].By(s.over)
		x[k], _ = n.Div(p.limits[k].factor)
	}
	return x
}

// dual has the prices of the rows as they were handed in, but of the program's
// own costs.
func (c *Corner) dual(prices []*frac.Frac) []*frac.Frac {
	y := make([]*frac.Frac, len(c.limits)-c.cols)
	for place, k := range c.held {
		if k >= c.cols {
			y[k-c.cols] = prices[place].Mul(c.limits[k].factor)
		}
	}
	return y
}

// against is what shows that nothing fits, of the prices at a corner from where
// no way makes the limits lack less: each row that is not kept counts once
// against what it lacks, each one that is held by its price. So taken together
// they ask for more than the columns can be.
func (c *Corner) against(prices []*frac.Frac) []*frac.Frac {
	y := c.dual(prices)
	for k := range y {
		if side := c.side(c.cols + k); side != 0 {
			y[k] = c.limits[c.cols+k].factor.Mul(frac.Of(int64(-side)))
		}
	}
	return y
}

func texts(x []*frac.Frac) []string {
	list := make([]string, len(x))
	for k, v := range x {
		list[k] = v.Text()
	}
	return list
}

// multiple has the texts of a list by a number above 0: of the least whole one,
// or, where it is too long to be read, of one that has a 1 or a -1.
func multiple(x []*frac.Frac) []string {
	_, factor := wholes(x)
	whole := texts(by(x, factor))
	if Readable(whole) {
		return whole
	}
	for _, v := range x {
		one, ok := frac.Of(int64(v.Sign())).Div(v)
		if list := texts(by(x, one)); ok && Readable(list) {
			return list
		}
	}
	return whole
}

func by(x []*frac.Frac, factor *frac.Frac) []*frac.Frac {
	list := make([]*frac.Frac, len(x))
	for k, v := range x {
		list[k] = v.Mul(factor)
	}
	return list
}

// Readable tells whether frac takes all texts of some lists.
func Readable(lists ...[]string) bool {
	for _, s := range slices.Concat(lists...) {
		if _, ok := frac.Get(s); !ok {
			return false
		}
	}
	return true
}

// fractions are whole numbers as such.
func fractions(list []integer.Int) []*frac.Frac {
	x := make([]*frac.Frac, len(list))
	for k, n := range list {
		x[k], _ = n.By(integer.Of(1))
	}
	return x
}
