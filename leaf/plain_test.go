package leaf_test

import (
	"math/big"
	"slices"
	"strconv"
	"strings"

	"victualler/api"
	"victualler/prob"
)

// What stands here says the chapter's sentences once more, on big.Rat, and lays
// programs and trees.

// dice throws numbers that are the same in every run.
type dice uint64

func (d *dice) below(n int) int {
	*d = *d*6364136223846793005 + 1442695040888963407
	return int(*d>>33) % n
}

// lp lays a program: "cost low up" of each column, parted by commas, - for a bound
// that is none, "int" behind if it is to be whole; then rows: their numbers by
// columns, <, = or >, the right side.
func lp(cols string, rows ...string) api.LP {
	var l api.LP
	for c := range strings.SplitSeq(cols, ",") {
		if w := strings.Fields(c); len(w) > 0 {
			l.Cols = append(l.Cols, api.Col{Cost: w[0], Low: strings.TrimSuffix(w[1], "-"), Up: strings.TrimSuffix(w[2], "-"), Int: len(w) > 3})
		}
	}
	for _, text := range rows {
		w := strings.Fields(text)
		at := len(w) - 2
		r := api.Row{Kind: strings.Index("<=>", w[at]) + 1, Rhs: w[at+1]}
		for k, s := range w[:at] {
			if s != "0" {
				r.Coef = append(r.Coef, api.Coef{Col: k, V: s})
			}
		}
		l.Rows = append(l.Rows, r)
	}
	return l
}

// lay lays a tree: of each node its Dual's numbers, or its column, At, Left and
// Right, parted by colons.
func lay(nodes ...string) []api.Node {
	tree := []api.Node{}
	for _, text := range nodes {
		n := api.Node{Col: -1}
		if w := strings.Split(text, ":"); len(w) > 1 {
			n.Col, _ = strconv.Atoi(w[0])
			n.At = w[1]
			n.Left, _ = strconv.Atoi(w[2])
			n.Right, _ = strconv.Atoi(w[3])
		} else {
			n.Dual = strings.Fields(text)
		}
		tree = append(tree, n)
	}
	return tree
}

// number is a text's; nil: it is not as frac.Text writes it, or too long.
func number(s string) *big.Rat {
	if strings.Trim(s, "-/0123456789") != "" {
		return nil
	}
	upper, lower, _ := strings.Cut(strings.TrimPrefix(s, "-"), "/")
	x, ok := new(big.Rat).SetString(s)
	if !ok || x.RatString() != s || len(upper) > 2000 || len(lower) > 2000 {
		return nil
	}
	return x
}

// ends are a column's; nil: none.
type ends struct{ low, up *big.Rat }

func (e ends) crosses() bool { return e.low != nil && e.up != nil && e.low.Cmp(e.up) > 0 }

// covers says what Covers is to say.
func covers(l api.LP, tree []api.Node, floor string, all bool) bool {
	if !prob.May(l) || len(tree) == 0 || len(tree) > 601 || !all && number(floor) == nil {
		return false
	}
	box := []ends{}
	for _, c := range l.Cols {
		box = append(box, ends{number(c.Low), number(c.Up)})
	}
	least := number(floor)
	if all {
		least = nil
	}
	reached := make([]int, len(tree))
	if !shows(l, tree, 0, box, least, reached) {
		return false
	}
	return !slices.ContainsFunc(reached, func(n int) bool { return n != 1 })
}

func shows(l api.LP, tree []api.Node, at int, box []ends, least *big.Rat, reached []int) bool {
	if reached[at]++; reached[at] > 1 {
		return false
	}
	n := tree[at]
	if n.Col < 0 {
		return slices.ContainsFunc(box, ends.crosses) || closes(l, box, n.Dual, least)
	}
	cut := number(n.At)
	if n.Col >= len(l.Cols) || !l.Cols[n.Col].Int || cut == nil || !cut.IsInt() {
		return false
	}
	for _, to := range []int{n.Left, n.Right} {
		if to <= at || to >= len(tree) {
			return false
		}
	}
	left, right := slices.Clone(box), slices.Clone(box)
	if e := &left[n.Col]; e.up == nil || e.up.Cmp(cut) > 0 {
		e.up = cut
	}
	next := new(big.Rat).Add(cut, big.NewRat(1, 1))
	if e := &right[n.Col]; e.low == nil || e.low.Cmp(next) < 0 {
		e.low = next
	}
	return shows(l, tree, n.Left, left, least, reached) && shows(l, tree, n.Right, right, least, reached)
}

func closes(l api.LP, box []ends, dual []string, least *big.Rat) bool {
	if b := bound(l, box, dual, false); b != nil && b.Sign() > 0 {
		return true
	}
	if least == nil {
		return false
	}
	b := bound(l, box, dual, true)
	return b != nil && b.Cmp(least) >= 0
}

// bound is the least that the rows by a Dual leave for the costs; nil: there is none.
func bound(l api.LP, box []ends, dual []string, costs bool) *big.Rat {
	if len(dual) != len(l.Rows) {
		return nil
	}
	total, d := new(big.Rat), make([]*big.Rat, len(l.Cols))
	for k, c := range l.Cols {
		d[k] = new(big.Rat)
		if costs {
			d[k].Set(number(c.Cost))
		}
	}
	for k, r := range l.Rows {
		y := number(dual[k])
		if y == nil || r.Kind == api.RLess && y.Sign() > 0 || r.Kind == api.RMore && y.Sign() < 0 {
			return nil
		}
		total.Add(total, new(big.Rat).Mul(y, number(r.Rhs)))
		for _, c := range r.Coef {
			d[c.Col].Sub(d[c.Col], new(big.Rat).Mul(y, number(c.V)))
		}
	}
	for k, e := range box {
		end := e.low
		if d[k].Sign() < 0 {
			end = e.up
		}
		if d[k].Sign() == 0 {
			continue
		}
		if end == nil {
			return nil
		}
		total.Add(total, new(big.Rat).Mul(d[k], end))
	}
	return total
}
