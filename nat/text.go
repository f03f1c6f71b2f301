package nat

import (
	"slices"
	"strconv"
	"strings"

	"victualler/api"
)

const (
	groupDigits = 19 // so many digits fit a word
	groupSize   = 10_000_000_000_000_000_000
)

// Get: see the chapter.
func Get(s string) (*Nat, bool) {
	if !plain(s) {
		return nil, false
	}
	x := make([]uint64, 0, len(s)/groupDigits+1)
	// The first group is the short one.
	end := (len(s)-1)%groupDigits + 1
	for start := 0; start < len(s); start, end = end, end+groupDigits {
		x = pushed(x, group(s[start:end]))
	}
	return made(x), true
}

// plain tells whether s is a number as Text writes it, and not too long.
func plain(s string) bool {
	if s == "" || len(s) > api.MaxDigits || s[0] == '0' && s != "0" {
		return false
	}
	for k := range len(s) {
		if s[k] < '0' || s[k] > '9' {
			return false
		}
	}
	return true
}

// group is the number of at most groupDigits digits.
func group(digits string) uint64 {
	x := uint64(0)
	for k := range len(digits) {
		x = x*10 + uint64(digits[k]-'0')
	}
	return x
}

// pushed is x by groupSize and over.
func pushed(x []uint64, over uint64) []uint64 {
	for k, word := range x {
		over, x[k] = row(word, groupSize, over)
	}
	return append(x, over)
}

// Text: see the chapter.
func (n *Nat) Text() string {
	left := slices.Clone(n.all())
	if len(left) == 0 {
		return "0"
	}
	var groups []uint64 // from the lowest up
	for len(left) > 0 {
		groups = append(groups, byWord(left, left, groupSize))
		left = trim(left)
	}
	var b strings.Builder
	for k := len(groups) - 1; k >= 0; k-- {
		digits := strconv.FormatUint(groups[k], 10)
		if k < len(groups)-1 {
			b.WriteString(strings.Repeat("0", groupDigits-len(digits)))
		}
		b.WriteString(digits)
	}
	return b.String()
}
