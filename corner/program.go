package corner

import (
	"victualler/api"
	"victualler/frac"
	"victualler/integer"
)

// program is a linear program in whole numbers alone. A column is a limit, too:
// of a sum that has nothing but it.
type program struct {
	cols   int
	limits []limit       // the columns', then the rows'
	costs  []integer.Int // by columns
	factor *frac.Frac    // above 0: so many times the costs that were handed in
}

// limit is what a sum of columns has to keep to.
type limit struct {
	terms   []term     // by rising columns, none 0
	low, up *measure   // nil: none
	factor  *frac.Frac // above 0: all of it is so many times what was handed in
	squares *frac.Frac // the sum of the terms' squares
}

type term struct {
	col int
	n   integer.Int
}

// read takes a program that may be.
func read(l api.LP) program {
	p := program{cols: len(l.Cols)}
	costs := make([]*frac.Frac, len(l.Cols))
	for k, c := range l.Cols {
		p.limits = append(p.limits, ofCol(k, c))
		costs[k] = number(c.Cost)
	}
	for _, r := range l.Rows {
		p.limits = append(p.limits, ofRow(r))
	}
	p.costs, p.factor = wholes(costs)
	return p
}

func ofCol(k int, c api.Col) limit {
	// An end that is none counts as 0, which leaves the factor as it is.
	list, factor := wholes([]*frac.Frac{frac.Of(1), number(c.Low), number(c.Up)})
	l := limit{terms: []term{{k, list[0]}}, factor: factor}
	if c.Low != "" {
		l.low = &measure{n: list[1]}
	}
	if c.Up != "" {
		l.up = &measure{n: list[2]}
	}
	return l.measured()
}

func ofRow(r api.Row) limit {
	numbers := []*frac.Frac{number(r.Rhs)}
	for _, c := range r.Coef {
		numbers = append(numbers, number(c.V))
	}
	list, factor := wholes(numbers)
	l := limit{factor: factor}
	for k, c := range r.Coef {
		l.terms = append(l.terms, term{c.Col, list[k+1]})
	}
	if r.Kind != api.RLess {
		l.low = &measure{n: list[0]}
	}
	if r.Kind != api.RMore {
		l.up = &measure{n: list[0]}
	}
	return l.measured()
}

func (l limit) measured() limit {
	sum := integer.Int{}
	for _, t := range l.terms {
		sum = sum.Add(t.n.Mul(t.n))
	}
	l.squares, _ = sum.By(integer.Of(1))
	return l
}

// fixed tells whether both ends are one number.
func (l limit) fixed() bool {
	return l.low != nil && l.up != nil && l.low.n.Cmp(l.up.n) == 0
}

// number is a text's; that of none counts as 0.
func number(s string) *frac.Frac {
	x, _ := frac.Get(s)
	return x
}

// wholes are numbers by the least factor above 0 that makes all of them whole.
func wholes(numbers []*frac.Frac) ([]integer.Int, *frac.Frac) {
	over, common := integer.Of(1), integer.Int{}
	for _, x := range numbers {
		n, d := integer.Parts(x)
		over, common = over.Lcm(d), common.Gcd(n)
	}
	factor, ok := over.By(common)
	if !ok {
		factor = frac.Of(1)
	}
	list := make([]integer.Int, len(numbers))
	for k, x := range numbers {
		list[k], _ = integer.Parts(x.Mul(factor))
	}
	return list, factor
}

// sums are numbers of limits over one denominator, which is above 0.
type sums struct {
	over integer.Int
	n    []integer.Int
}

// sumsOf are what the terms of all limits come to of the columns' numbers.
func (p program) sumsOf(x []*frac.Frac) sums {
	over, list := shared(x)
	s := sums{over, make([]integer.Int, len(p.limits))}
	for k, l := range p.limits {
		for _, t := range l.terms {
			s.n[k] = s.n[k].Add(t.n.Mul(list[t.col]))
		}
	}
	return s
}

// shared brings numbers over the least denominator that all of them may have.
func shared(x []*frac.Frac) (over integer.Int, list []integer.Int) {
	over, list = integer.Of(1), make([]integer.Int, len(x))
	for _, v := range x {
		_, d := integer.Parts(v)
		over = over.Lcm(d)
	}
	for k, v := range x {
		n, d := integer.Parts(v)
		factor, _ := over.Div(d)
		list[k] = n.Mul(factor)
	}
	return over, list
}
