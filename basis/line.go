package basis

import (
	"cmp"

	"victualler/integer"
)

// line is of whole numbers over one denominator, which is above 0: those of an
// inverse have most of theirs in common, so that sums of them are whole ones.
type line struct {
	over  integer.Int
	terms []term // by rising places, none 0
}

type term struct {
	at int
	n  integer.Int
}

func (t term) times(f integer.Int) term { return term{t.at, t.n.Mul(f)} }

// gathered is the line of some numbers.
func gathered(x []ratio) line {
	l := line{over: integer.Of(1)}
	for _, v := range x {
		if !v.none() {
			l.over = l.over.Lcm(v.over)
		}
	}
	for k, v := range x {
		if !v.none() {
			factor, _ := l.over.Div(v.over)
			l.terms = append(l.terms, term{k, v.n.Mul(factor)})
		}
	}
	return l
}

// dot is the sum of the products with y, but that l's over is left aside.
func (l line) dot(y []ratio) ratio {
	sum := ratio{}
	for _, t := range l.terms {
		sum = sum.plus(ratio{t.n.Mul(y[t.at].n), y[t.at].over})
	}
	return sum
}

// value is the sum of the products with y.
func (l line) value(y []ratio) ratio {
	sum := l.dot(y)
	return ratio{sum.n, sum.over.Mul(l.over)}.lowest()
}

// addTo adds f times l to x.
func (l line) addTo(x []ratio, f ratio) {
	if f.none() {
		return
	}
	f = ratio{f.n, f.over.Mul(l.over)}.lowest()
	for _, t := range l.terms {
		x[t.at] = x[t.at].plus(ratio{t.n.Mul(f.n), f.over})
	}
}

// scaled is l by its sum of products with col, so that its own is 1; false:
// that sum is 0.
func (l line) scaled(col []ratio) (line, bool) {
	sum := l.dot(col)
	if sum.none() {
		return line{}, false
	}
	f := one().by(sum)
	return line{f.over, mixed(l.terms, f.n, nil, integer.Int{})}.lowest(), true
}

// cleared is l less as much of a pivot, whose sum of products with col is 1,
// that its own is 0.
func (l line) cleared(col []ratio, pivot line) line {
	sum := l.dot(col)
	if sum.none() {
		return l
	}
	// What l.over is counts behind all: it stands under both.
	f := ratio{sum.n, sum.over.Mul(pivot.over)}.lowest()
	terms := mixed(l.terms, f.over, pivot.terms, f.n.Neg())
	return line{l.over.Mul(f.over), terms}.lowest()
}

// mixed is p times a and q times b.
func mixed(a []term, p integer.Int, b []term, q integer.Int) []term {
	sum := make([]term, 0, len(a)+len(b))
	for len(a) > 0 && len(b) > 0 {
		switch x, y := a[0], b[0]; cmp.Compare(x.at, y.at) {
		case -1:
			sum, a = append(sum, x.times(p)), a[1:]
		case 1:
			sum, b = append(sum, y.times(q)), b[1:]
		default:
			if n := x.n.Mul(p).Add(y.n.Mul(q)); n.Sign() != 0 {
				sum = append(sum, term{x.at, n})
			}
			a, b = a[1:], b[1:]
		}
	}
	for _, x := range a {
		sum = append(sum, x.times(p))
	}
	for _, y := range b {
		sum = append(sum, y.times(q))
	}
	return sum
}

// lowest is l with over and all numbers divided by what divides all of them. It
// writes l's terms, which no Basis has yet.
func (l line) lowest() line {
	list := make([]integer.Int, len(l.terms))
	for k, t := range l.terms {
		list[k] = t.n
	}
	over, list := integer.Lowest(l.over, list)
	for k, n := range list {
		l.terms[k].n = n
	}
	return line{over, l.terms}
}
