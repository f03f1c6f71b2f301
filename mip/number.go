package mip

import (
	"strconv"
	"strings"

	"victualler/frac"
	"victualler/nat"
)

// number is that of a text of frac's: however long it is, while frac.Get has a limit.
func number(text string) *frac.Frac {
	size, neg := strings.CutPrefix(text, "-")
	upper, lower, parted := strings.Cut(size, "/")
	if !parted {
		lower = "1"
	}
	x, _ := frac.New(neg, natural(upper), natural(lower))
	return x
}

// natural counts digit by digit, as many at a time as a word has room for.
func natural(digits string) *nat.Nat {
	const most = 18
	n := nat.Of(0)
	for len(digits) > 0 {
		count := min(most, len(digits))
		word, _ := strconv.ParseUint(digits[:count], 10, 64)
		n = n.Mul(power(count)).Add(nat.Of(word))
		digits = digits[count:]
	}
	return n
}

// power is 10 so many times by itself.
func power(count int) *nat.Nat {
	word := uint64(1)
	for range count {
		word *= 10
	}
	return nat.Of(word)
}
