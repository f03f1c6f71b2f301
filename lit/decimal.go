package lit

import (
	"strconv"
	"strings"

	"victualler/frac"
)

const (
	farthest    = 100 // of exponents, either way
	powerDigits = 3   // of an exponent, noughts ahead too
)

// decimal reads a literal that is not written as a fraction.
func decimal(s string) (*frac.Frac, bool) {
	neg, size := cutSign(s)
	size, power, ok := cutPower(size)
	if !ok {
		return nil, false
	}
	whole, part, _ := strings.Cut(size, ".")
	digits := whole + part
	if !allDigits(digits) {
		return nil, false
	}
	x := scaled(number(digits), power-len(part))
	if neg {
		x = x.Neg()
	}
	return x, true
}

// cutSign takes a sign off, if there is one.
func cutSign(s string) (neg bool, rest string) {
	rest, neg = strings.CutPrefix(s, "-")
	if !neg {
		rest = strings.TrimPrefix(s, "+")
	}
	return neg, rest
}

// cutPower takes the exponent off, 0 if there is none; false: it is no right one.
func cutPower(s string) (rest string, power int, ok bool) {
	k := strings.IndexAny(s, "eE")
	if k < 0 {
		return s, 0, true
	}
	neg, digits := cutSign(s[k+1:])
	if len(digits) > powerDigits || !allDigits(digits) {
		return "", 0, false
	}
	power, err := strconv.Atoi(digits)
	if err != nil || power > farthest {
		return "", 0, false
	}
	if neg {
		power = -power
	}
	return s[:k], power, true
}

// allDigits wants one digit at least.
func allDigits(s string) bool {
	for k := range len(s) {
		if s[k] < '0' || s[k] > '9' {
			return false
		}
	}
	return s != ""
}

// number is the number of digits, noughts ahead or not: frac wants none there.
func number(digits string) *frac.Frac {
	shown := strings.TrimLeft(digits, "0")
	if shown == "" {
		return frac.Of(0)
	}
	x, _ := frac.Get(shown)
	return x
}

// scaled is x by 10 to the power.
func scaled(x *frac.Frac, power int) *frac.Frac {
	if power < 0 {
		y, _ := x.Div(tenTo(-power))
		return y
	}
	return x.Mul(tenTo(power))
}

// tenTo is 10 to the power, which is not below 0.
func tenTo(power int) *frac.Frac {
	x, _ := frac.Get("1" + strings.Repeat("0", power))
	return x
}
