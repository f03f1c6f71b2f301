package prob

import (
	"victualler/api"
	"victualler/frac"
	"victualler/vec"
)

// Bound: see the chapter.
func Bound(l api.LP, dual []string, costs bool) (string, bool) {
	p, okL := read(l)
	y, okY := numbers(dual, len(p.rows))
	if !okL || !okY || !p.signed(y) {
		return "", false
	}
	sum, ok := p.least(p.left(y, costs))
	if !ok {
		return "", false
	}
	return sum.Add(p.rhs.Dot(y)).Text(), true
}

// signed tells whether each row has a number of a sign that its kind takes.
func (p program) signed(y *vec.Vec) bool {
	for k, r := range p.rows {
		sign := y.At(k).Sign()
		if r.kind == api.RLess && sign > 0 || r.kind == api.RMore && sign < 0 {
			return false
		}
	}
	return true
}

// left is what the rows, each by its number, leave of the costs.
func (p program) left(y *vec.Vec, costs bool) *vec.Vec {
	var d *vec.Vec
	if costs {
		d = p.costs
	}
	for k, r := range p.rows {
		d = d.Add(y.At(k).Neg(), r.coefs)
	}
	return d
}

// least is the sum of d by the columns where that is least within their
// bounds; false: it has no least.
func (p program) least(d *vec.Vec) (*frac.Frac, bool) {
	sum := frac.Of(0)
	for k, c := range p.cols {
		share, end := d.At(k), c.low
		switch share.Sign() {
		case 0:
			continue
		case -1:
			end = c.up
		}
		if end == nil {
			return nil, false
		}
		sum = sum.Add(share.Mul(end))
	}
	return sum, true
}
