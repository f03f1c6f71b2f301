package mat

import "victualler/frac"

// line is a row of fractions, none of them nil.
type line []*frac.Frac

func read(texts []string) (line, bool) {
	l := make(line, len(texts))
	for k, s := range texts {
		x, ok := frac.Get(s)
		if !ok {
			return nil, false
		}
		l[k] = x
	}
	return l, true
}

// copied is a new one, for who has a *Frac may write over it; nil is 0.
func copied(x *frac.Frac) *frac.Frac {
	if x == nil {
		return frac.Of(0)
	}
	other := *x
	return &other
}

// noughts are n of 0: one fraction serves for all, as long as none is handed out.
func noughts(n int) line {
	l, nought := make(line, n), frac.Of(0)
	for k := range l {
		l[k] = nought
	}
	return l
}

// add adds f times w, which is as long, to l. Most matrices are of noughts for
// the most part, so these are left aside.
func (l line) add(f *frac.Frac, w line) {
	if f.Sign() == 0 {
		return
	}
	for k, x := range w {
		if x.Sign() != 0 {
			l[k] = l[k].Add(f.Mul(x))
		}
	}
}

// dot is the sum of the products: a new one. A nil in x counts as 0.
func (l line) dot(x []*frac.Frac) *frac.Frac {
	sum := frac.Of(0)
	for k, y := range l {
		if y.Sign() != 0 && x[k].Sign() != 0 {
			sum = sum.Add(y.Mul(x[k]))
		}
	}
	return sum
}

// over is l by f, which is not 0.
func (l line) over(f *frac.Frac) line {
	other := make(line, len(l))
	for k, x := range l {
		other[k] = x
		if x.Sign() != 0 {
			other[k], _ = x.Div(f)
		}
	}
	return other
}

// empty tells whether all is 0.
func (l line) empty() bool {
	for _, x := range l {
		if x.Sign() != 0 {
			return false
		}
	}
	return true
}
