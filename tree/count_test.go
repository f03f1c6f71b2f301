package tree_test

import (
	"fmt"
	"math"
	"slices"
	"testing"

	"victualler/api"
	"victualler/tree"
)

// heap has groups of so many cases, and nothing else that may be.
func heap(ns ...int) api.Stoch {
	s := api.Stoch{Kind: -7}
	for _, n := range ns {
		s.Groups = append(s.Groups, api.Group{Name: "\x00", Cases: make([]api.Case, n)})
	}
	return s
}

// counts holds what Count answers; below 0: there is nothing.
func counts(t *testing.T, what string, s api.Stoch, most, want int) {
	t.Helper()
	n, ok := tree.Count(s, most)
	if ok != (want >= 0) || n != max(want, 0) {
		t.Errorf("P13.1: Count of %s, %d: %d, %v, not %d", what, most, n, ok, want)
	}
}

// mostOf is what Count takes most for.
func mostOf(most int) int {
	if 1 <= most && most <= 64 {
		return most
	}
	return 64
}

var mosts = []int{math.MinInt, -65, -64, -1, 0, 1, 2, 3, 7, 8, 31, 32, 33, 62, 63, 64, 65, 66, 128, 1 << 32, math.MaxInt}

func TestCount(t *testing.T) {
	for _, x := range []struct {
		ns   []int
		most int
		want int
	}{
		{nil, 0, 1}, {nil, 1, 1}, {nil, 64, 1}, {nil, -1, 1},
		{[]int{1}, 1, 1}, {[]int{2}, 1, -1}, {[]int{2}, 2, 2}, {[]int{2, 3}, 6, 6}, {[]int{2, 3}, 5, -1}, {[]int{3, 2}, 5, -1},
		{[]int{2, 2, 2, 2, 2, 2}, 0, 64}, {[]int{2, 2, 2, 2, 2, 2}, 64, 64}, {[]int{2, 2, 2, 2, 2, 2}, 63, -1}, {[]int{2, 2, 2, 2, 2, 2, 2}, 0, -1},
		{[]int{64}, 0, 64}, {[]int{65}, 0, -1}, {[]int{65}, 65, -1}, {[]int{65}, 1000, -1}, {[]int{64, 1, 1}, 0, 64}, {[]int{1, 1, 64}, 0, 64}, {[]int{1, 64, 2}, 0, -1},
		{[]int{5, 13}, 0, -1}, {[]int{7, 9}, 0, 63}, {[]int{7, 9}, 63, 63}, {[]int{7, 9}, 62, -1},
		{[]int{0}, 1, 0}, {[]int{0}, 0, 0}, {[]int{3, 0}, 9, 0}, {[]int{0, 3}, 9, 0}, {[]int{3, 0}, 2, -1}, {[]int{0, 3}, 2, 0},
		{[]int{65, 0}, 0, -1}, {[]int{0, 65}, 0, 0}, {[]int{8, 9, 0}, 0, -1}, {[]int{8, 0, 9}, 0, 0}, {[]int{0, 0, 0}, 1, 0}, {[]int{0, 1000, 1000}, 1, 0},
		{slices.Repeat([]int{1}, 1000), 1, 1}, {append(slices.Repeat([]int{1}, 1000), 2), 1, -1}, {append(slices.Repeat([]int{1}, 1000), 0), 1, 0},
		// Sums that would come to 0, or below, if they wrapped.
		{slices.Repeat([]int{64}, 11), 0, -1}, {slices.Repeat([]int{16}, 16), 0, -1}, {slices.Repeat([]int{2}, 64), 0, -1}, {slices.Repeat([]int{2}, 63), 0, -1}, {slices.Repeat([]int{1 << 16}, 4), 0, -1}, {[]int{1 << 20, 1 << 20, 0}, math.MaxInt, -1},
	} {
		counts(t, fmt.Sprintf("%.60s", fmt.Sprint(x.ns)), heap(x.ns...), x.most, x.want)
	}
}

// Up to three groups of any sizes, group by group.
func TestCountOfAllSizes(t *testing.T) {
	sizes := []int{0, 1, 2, 3, 4, 5, 6, 7, 8, 9, 10, 12, 13, 16, 21, 22, 31, 32, 33, 63, 64, 65, 66, 100}
	for _, a := range sizes {
		for _, b := range sizes {
			for _, c := range sizes {
				s := heap(a, b, c)
				for _, most := range mosts {
					limit, want := mostOf(most), a*b*c
					if a > limit || a*b > limit || want > limit {
						want = -1
					}
					counts(t, fmt.Sprint(a, b, c), s, most, want)
				}
			}
			for _, most := range mosts {
				want := a * b
				if max(a, a*b) > mostOf(most) {
					want = -1
				}
				counts(t, fmt.Sprint(a, b), heap(a, b), most, want)
			}
		}
	}
}

// Just the numbers of cases count: not what Kind, which names, which entries.
func TestCountAsksNothingElse(t *testing.T) {
	for _, kind := range []int{math.MinInt, -1, 0, api.KIndep, api.KBlock, api.KScen, 4, math.MaxInt} {
		for _, name := range []string{"", "a", "ROOT", "\xff"} {
			for _, p := range []string{"", "1", "0", "-1", "x"} {
				g := api.Group{Name: name, Cases: []api.Case{{P: p, Es: make([]api.Entry, 99)}, {P: p}, {P: p}}}
				s := api.Stoch{Kind: kind, Groups: []api.Group{g, g}}
				counts(t, fmt.Sprint(kind, name, p), s, 9, 9)
				counts(t, fmt.Sprint(kind, name, p), s, 8, -1)
			}
		}
	}
	counts(t, "empty lists", api.Stoch{Groups: []api.Group{}}, 0, 1)
	counts(t, "empty cases", api.Stoch{Groups: []api.Group{{Cases: []api.Case{}}}}, 0, 0)
	counts(t, "nil cases", api.Stoch{Groups: []api.Group{{}}}, 0, 0)
}
