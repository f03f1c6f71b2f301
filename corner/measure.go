package corner

import "victualler/integer"

// measure is a number and some hairs. A hair is above 0, and no number of them
// comes to any number above 0.
type measure struct{ n, hairs integer.Int }

func (m measure) sign() int {
	if sign := m.n.Sign(); sign != 0 {
		return sign
	}
	return m.hairs.Sign()
}

func (m measure) times(n integer.Int) measure { return measure{m.n.Mul(n), m.hairs.Mul(n)} }

func (m measure) plus(w measure) measure { return measure{m.n.Add(w.n), m.hairs.Add(w.hairs)} }

func (m measure) less(w measure) measure { return m.plus(w.turned()) }

func (m measure) turned() measure { return measure{m.n.Neg(), m.hairs.Neg()} }

// eased is an end with so many hairs; false: it has some, or is none.
func (m *measure) eased(hairs int64) (*measure, bool) {
	if m == nil || m.hairs.Sign() != 0 {
		return m, false
	}
	return &measure{m.n, integer.Of(hairs)}, true
}

// bare is an end without hairs.
func (m *measure) bare() *measure {
	if m == nil || m.hairs.Sign() == 0 {
		return m
	}
	return &measure{n: m.n}
}
