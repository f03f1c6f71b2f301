package integer

// Div is a by b, towards 0, and what is left of a, with its sign; 0 and all of
// a: b is 0.
func (a Int) Div(b Int) (q, rest Int) {
	neg := a.neg != b.neg
	switch {
	case b.Sign() == 0:
		return Int{}, a
	case short(a, b):
		return ofWord(neg, a.word/b.word), ofWord(a.neg, a.word%b.word)
	}
	size, left, _ := a.size().Div(b.size())
	return ofNat(neg, size), ofNat(a.neg, left)
}

// Gcd is the greatest that divides both; of 0 and 0 it is 0.
func (a Int) Gcd(b Int) Int {
	if a.Single() || b.Single() {
		return Of(1)
	}
	if !short(a, b) {
		return ofNat(false, a.size().Gcd(b.size()))
	}
	x, y := a.word, b.word
	for y != 0 {
		x, y = y, x%y
	}
	return ofWord(false, x)
}

// Lcm is the least above 0 that both divide; 0: one of them is 0.
func (a Int) Lcm(b Int) Int {
	own, _ := b.Div(a.Gcd(b))
	product := a.Mul(own)
	product.neg = false
	return product
}

// Lowest is over, which is above 0, and a list, divided by what divides all of
// them. That divides each sum of them, too: so one such sum is asked ahead of
// all, and seldom has over a divisor in common with it that the others have not.
func Lowest(over Int, list []Int) (Int, []Int) {
	if over.Single() {
		return over, list
	}
	common := over.Gcd(blend(list))
	for !common.Single() {
		shorter, rest := divided(list, common)
		if rest.Sign() == 0 {
			over, _ = over.Div(common)
			return over, shorter
		}
		common = common.Gcd(rest)
	}
	return over, list
}

// blend is a sum of all numbers, of each another multiple.
func blend(list []Int) Int {
	sum := Int{}
	for k, n := range list {
		sum = sum.Add(n.Mul(Of(int64(k) + 1)))
	}
	return sum
}

// divided has all numbers divided by one, if no rest is left; else rest is the
// first one that is.
func divided(list []Int, by Int) (shorter []Int, rest Int) {
	shorter = make([]Int, len(list))
	for k, n := range list {
		q, rest := n.Div(by)
		if rest.Sign() != 0 {
			return nil, rest
		}
		shorter[k] = q
	}
	return shorter, Int{}
}
