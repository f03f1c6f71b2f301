package basis

import "cmp"

// line is of whole numbers over one denominator, which is above 0: those of an
// inverse have most of theirs in common, so that sums of them are whole ones.
type line struct {
	over  whole
	terms []term // by rising places, none 0
}

type term struct {
	at int
	n  whole
}

func (t term) times(f whole) term { return term{t.at, t.n.times(f)} }

// gathered is the line of some numbers.
func gathered(x []ratio) line {
	l := line{over: ofWord(false, 1)}
	for _, v := range x {
		if !v.none() {
			l.over = l.over.multiple(v.over)
		}
	}
	for k, v := range x {
		if !v.none() {
			factor, _ := l.over.div(v.over)
			l.terms = append(l.terms, term{k, v.n.times(factor)})
		}
	}
	return l
}

// dot is the sum of the products with y, but that l's over is left aside.
func (l line) dot(y []ratio) ratio {
	sum := ratio{}
	for _, t := range l.terms {
		sum = sum.plus(ratio{t.n.times(y[t.at].n), y[t.at].over})
	}
	return sum
}

// value is the sum of the products with y.
func (l line) value(y []ratio) ratio {
	sum := l.dot(y)
	return ratio{sum.n, sum.over.times(l.over)}.lowest()
}

// addTo adds f times l to x.
func (l line) addTo(x []ratio, f ratio) {
	if f.none() {
		return
	}
	f = ratio{f.n, f.over.times(l.over)}.lowest()
	for _, t := range l.terms {
		x[t.at] = x[t.at].plus(ratio{t.n.times(f.n), f.over})
	}
}

// scaled is l by its sum of products with col, so that its own is 1; false:
// that sum is 0.
func (l line) scaled(col []ratio) (line, bool) {
	sum := l.dot(col)
	if sum.none() {
		return line{}, false
	}
	f := one().by(sum)
	return line{f.over, mixed(l.terms, f.n, nil, whole{})}.lowest(), true
}

// cleared is l less as much of a pivot, whose sum of products with col is 1,
// that its own is 0.
func (l line) cleared(col []ratio, pivot line) line {
	sum := l.dot(col)
	if sum.none() {
		return l
	}
	// What l.over is counts behind all: it stands under both.
	f := ratio{sum.n, sum.over.times(pivot.over)}.lowest()
	terms := mixed(l.terms, f.over, pivot.terms, f.n.turned())
	return line{l.over.times(f.over), terms}.lowest()
}

// mixed is p times a and q times b.
func mixed(a []term, p whole, b []term, q whole) []term {
	sum := make([]term, 0, len(a)+len(b))
	for len(a) > 0 && len(b) > 0 {
		switch x, y := a[0], b[0]; cmp.Compare(x.at, y.at) {
		case -1:
			sum, a = append(sum, x.times(p)), a[1:]
		case 1:
			sum, b = append(sum, y.times(q)), b[1:]
		default:
			if n := x.n.times(p).plus(y.n.times(q)); !n.none() {
				sum = append(sum, term{x.at, n})
			}
			a, b = a[1:], b[1:]
		}
	}
	for _, x := range a {
		sum = append(sum, x.times(p))
	}
	for _, y := range b {
		sum = append(sum, y.times(q))
	}
	return sum
}

// lowest is l with over and all numbers divided by what divides all of them.
// That divides each sum of them, too: so one such sum is asked ahead of all,
// and seldom has over a divisor in common with it that the others have not.
func (l line) lowest() line {
	if l.over.single() {
		return l
	}
	common := l.over.divisor(l.blend())
	for !common.single() {
		shorter, rest := l.divided(common)
		if rest.none() {
			return shorter
		}
		common = common.divisor(rest)
	}
	return l
}

// blend is a sum of all numbers, of each another multiple.
func (l line) blend() whole {
	sum := whole{}
	for k, t := range l.terms {
		sum = sum.plus(t.n.times(ofWord(false, uint64(k)+1)))
	}
	return sum
}

// divided has over and all numbers divided by one that divides over, if no rest
// is left; else rest is the first one that is.
func (l line) divided(by whole) (shorter line, rest whole) {
	terms := make([]term, len(l.terms))
	for k, t := range l.terms {
		n, rest := t.n.div(by)
		if !rest.none() {
			return line{}, rest
		}
		terms[k] = term{t.at, n}
	}
	over, _ := l.over.div(by)
	return line{over, terms}, whole{}
}
