package frac

import "victualler/nat"

// These are as those on words: what they say of divisors holds here too.

func longSum(a, b *Frac, negB bool) *Frac {
	n1, d1 := a.nats()
	n2, d2 := b.nats()
	common := d1.Gcd(d2)
	own1, own2 := over(d1, common), over(d2, common)
	neg, n := signedNats(a.Sign() < 0, n1.Mul(own2), negB, n2.Mul(own1))
	left := n.Gcd(common)
	return ofNats(neg, over(n, left), own1.Mul(over(d2, left)))
}

// signedNats adds sizes with their signs.
func signedNats(negX bool, x *nat.Nat, negY bool, y *nat.Nat) (neg bool, size *nat.Nat) {
	if negX == negY {
		return negX, x.Add(y)
	}
	if size, ok := x.Less(y); ok {
		return negX, size
	}
	size, _ = y.Less(x)
	return negY, size
}

func longProduct(a, b *Frac) *Frac {
	n1, d1 := a.nats()
	n2, d2 := b.nats()
	first, second := n1.Gcd(d2), n2.Gcd(d1)
	n := over(n1, first).Mul(over(n2, second))
	d := over(d1, second).Mul(over(d2, first))
	return ofNats(a.Sign() != b.Sign(), n, d)
}

func longCompare(a, b *Frac) int {
	n1, d1 := a.nats()
	n2, d2 := b.nats()
	return n1.Mul(d2).Cmp(n2.Mul(d1))
}

// over is x by y, which divides it and is not 0: a new number.
func over(x, y *nat.Nat) *nat.Nat {
	q, _, _ := x.Div(y)
	return q
}
