package frac

import (
	"strings"

	"victualler/nat"
)

// Text: see the chapter.
func (a *Frac) Text() string {
	n, d := a.nats()
	text := n.Text()
	if a.Sign() < 0 {
		text = "-" + text
	}
	if a.Whole() {
		return text
	}
	return text + "/" + d.Text()
}

// Get: see the chapter.
func Get(s string) (*Frac, bool) {
	size, neg := strings.CutPrefix(s, "-")
	upper, lower, parted := strings.Cut(size, "/")
	n, ok := nat.Get(upper)
	if !ok || neg && n.Bits() == 0 {
		return nil, false
	}
	if !parted {
		return ofNats(neg, n, nat.Of(1)), true
	}
	d, ok := nat.Get(lower)
	if !ok || !lowest(n, d) {
		return nil, false
	}
	return ofNats(neg, n, d), true
}

// lowest tells whether Text writes n and d with a stroke between them.
func lowest(n, d *nat.Nat) bool {
	common, ok := n.Gcd(d).Word()
	// Bits is 1 of the number 1 alone.
	return ok && common == 1 && d.Bits() > 1
}
