package basis

import (
	"victualler/frac"
	"victualler/integer"
)

// ratio is n by over, which is above 0; where n is 0, over may be anything. It
// need not be in lowest terms: to bring each step of a sum to them would take
// longer than the sum.
type ratio struct{ n, over integer.Int }

func one() ratio { return ratio{integer.Of(1), integer.Of(1)} }

// read has nothing in common with the fractions: who has a *Frac may write over
// it.
func read(y []*frac.Frac) []ratio {
	list := make([]ratio, len(y))
	for k, x := range y {
		if x.Sign() != 0 {
			list[k].n, list[k].over = integer.Parts(x)
		}
	}
	return list
}

// told makes fractions, each a new one.
func told(list []ratio) []*frac.Frac {
	x := make([]*frac.Frac, len(list))
	for k, a := range list {
		x[k] = frac.Of(0)
		if !a.none() {
			x[k], _ = a.n.By(a.over)
		}
	}
	return x
}

func (a ratio) none() bool { return a.n.Sign() == 0 }

func (a ratio) plus(b ratio) ratio {
	switch {
	case a.none():
		return b
	case b.none():
		return a
	case a.over.Cmp(b.over) == 0:
		return ratio{a.n.Add(b.n), a.over}
	}
	over := a.over.Lcm(b.over)
	left, _ := over.Div(a.over)
	right, _ := over.Div(b.over)
	return ratio{a.n.Mul(left).Add(b.n.Mul(right)), over}
}

func (a ratio) less(b ratio) ratio { return a.plus(ratio{b.n.Neg(), b.over}) }

func (a ratio) times(b ratio) ratio {
	if a.none() || b.none() {
		return ratio{}
	}
	return ratio{a.n.Mul(b.n), a.over.Mul(b.over)}
}

// by is a by b, which is not 0.
func (a ratio) by(b ratio) ratio {
	n, over := a.n.Mul(b.over), a.over.Mul(b.n)
	if over.Sign() < 0 {
		return ratio{n.Neg(), over.Neg()}
	}
	return ratio{n, over}
}

func (a ratio) lowest() ratio {
	if a.none() {
		return ratio{}
	}
	common := a.n.Gcd(a.over)
	if common.Single() {
		return a
	}
	n, _ := a.n.Div(common)
	over, _ := a.over.Div(common)
	return ratio{n, over}
}
