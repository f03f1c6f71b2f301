package linear

import (
	"victualler/api"
	"victualler/frac"
	"victualler/vec"
)

// Bound is what the rows, each by its number, show that no point that fits is
// worth less than (with costs), or that is above 0 only if none fits (without);
// false: no such numbers, or no such bound.
func (p Program) Bound(dual []string, costs bool) (*frac.Frac, bool) {
	y, ok := numbers(dual, len(p.rows))
	if !ok || !p.signed(y) {
		return nil, false
	}
	sum, ok := p.least(p.left(y, costs))
	if !ok {
		return nil, false
	}
	return sum.Add(p.rhs.Dot(y)), true
}

// signed tells whether each row has a number of a sign that its kind takes.
func (p Program) signed(y *vec.Vec) bool {
	for k, r := range p.rows {
		sign := y.At(k).Sign()
		if r.kind == api.RLess && sign > 0 || r.kind == api.RMore && sign < 0 {
			return false
		}
	}
	return true
}

// left is what the rows, each by its number, leave of the costs.
func (p Program) left(y *vec.Vec, costs bool) *vec.Vec {
	var d *vec.Vec
	if costs {
		d = p.costs
	}
	for k, r := range p.rows {
		d = d.Add(y.At(k).Neg(), r.coefs)
	}
	return d
}

// least is the sum of d by the columns where that is least within their
// bounds; false: it has no least.
func (p Program) least(d *vec.Vec) (*frac.Frac, bool) {
	sum := frac.Of(0)
	for k, c := range p.cols {
		share, end := d.At(k), c.low
		switch share.Sign() {
		case 0:
			continue
		case -1:
			end = c.up
		}
		if end == nil {
			return nil, false
		}
		sum = sum.Add(share.Mul(end))
	}
	return sum, true
}
