package basis

import "victualler/frac"

// ratio is n by over, which is above 0; where n is 0, over may be anything. It
// need not be in lowest terms: to bring each step of a sum to them would take
// longer than the sum.
type ratio struct{ n, over whole }

func one() ratio { return ratio{ofWord(false, 1), ofWord(false, 1)} }

// read has nothing in common with the fractions: who has a *Frac may write over
// it.
func read(y []*frac.Frac) []ratio {
	list := make([]ratio, len(y))
	for k, x := range y {
		if x.Sign() != 0 {
			neg, n, d := x.Parts()
			list[k] = ratio{ofNat(neg, n), ofNat(false, d)}
		}
	}
	return list
}

// told makes fractions, each a new one.
func told(list []ratio) []*frac.Frac {
	x := make([]*frac.Frac, len(list))
	for k, a := range list {
		x[k] = frac.Of(0)
		if !a.none() {
			x[k], _ = frac.New(a.n.neg, a.n.size(), a.over.size())
		}
	}
	return x
}

func (a ratio) none() bool { return a.n.none() }

func (a ratio) plus(b ratio) ratio {
	switch {
	case a.none():
		return b
	case b.none():
		return a
	case a.over.same(b.over):
		return ratio{a.n.plus(b.n), a.over}
	}
	over := a.over.multiple(b.over)
	left, _ := over.div(a.over)
	right, _ := over.div(b.over)
	return ratio{a.n.times(left).plus(b.n.times(right)), over}
}

func (a ratio) less(b ratio) ratio { return a.plus(ratio{b.n.turned(), b.over}) }

func (a ratio) times(b ratio) ratio {
	if a.none() || b.none() {
		return ratio{}
	}
	return ratio{a.n.times(b.n), a.over.times(b.over)}
}

// by is a by b, which is not 0.
func (a ratio) by(b ratio) ratio {
	n, over := a.n.times(b.over), a.over.times(b.n)
	if over.neg {
		return ratio{n.turned(), over.turned()}
	}
	return ratio{n, over}
}

func (a ratio) lowest() ratio {
	if a.none() {
		return ratio{}
	}
	common := a.n.divisor(a.over)
	if common.single() {
		return a
	}
	n, _ := a.n.div(common)
	over, _ := a.over.div(common)
	return ratio{n, over}
}
