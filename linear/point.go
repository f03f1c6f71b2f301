package linear

import (
	"victualler/api"
	"victualler/frac"
	"victualler/vec"
)

// Fits tells whether a point is within the bounds and keeps the rows.
func (p Program) Fits(x *vec.Vec) bool { return p.keepsBounds(x) && p.keepsRows(x) }

func (p Program) keepsBounds(x *vec.Vec) bool {
	for k, c := range p.cols {
		v := x.At(k)
		if c.low != nil && v.Cmp(c.low) < 0 || c.up != nil && v.Cmp(c.up) > 0 {
			return false
		}
	}
	return true
}

func (p Program) keepsRows(x *vec.Vec) bool {
	for k, r := range p.rows {
		if !holds(r.kind, r.coefs.Dot(x).Cmp(p.rhs.At(k))) {
			return false
		}
	}
	return true
}

// holds tells whether a row of that kind takes a sum that stands so to its
// right side.
func holds(kind, order int) bool {
	switch kind {
	case api.RLess:
		return order <= 0
	case api.RMore:
		return order >= 0
	}
	return order == 0
}

// Whole tells whether the columns that are to be whole are so.
func (p Program) Whole(x *vec.Vec) bool {
	for k, c := range p.cols {
		if c.whole && !x.At(k).Whole() {
			return false
		}
	}
	return true
}

// Value is what a point costs.
func (p Program) Value(x *vec.Vec) *frac.Frac { return p.costs.Dot(x) }

// Ray tells whether what fits goes on to fit this way, and costs less and less.
func (p Program) Ray(way *vec.Vec) bool {
	return p.staysInBounds(way) && p.staysInRows(way) && p.Value(way).Sign() < 0
}

// staysInBounds tells whether no column that goes this way meets a bound,
// however far it goes.
func (p Program) staysInBounds(way *vec.Vec) bool {
	for k, c := range p.cols {
		sign := way.At(k).Sign()
		if c.low != nil && sign < 0 || c.up != nil && sign > 0 {
			return false
		}
	}
	return true
}

func (p Program) staysInRows(way *vec.Vec) bool {
	for _, r := range p.rows {
		if !holds(r.kind, r.coefs.Dot(way).Sign()) {
			return false
		}
	}
	return true
}

// Still tells whether the columns that are to be whole stay where they are.
func (p Program) Still(way *vec.Vec) bool {
	for k, c := range p.cols {
		if c.whole && way.At(k).Sign() != 0 {
			return false
		}
	}
	return true
}
