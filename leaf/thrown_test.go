package leaf_test

import (
	"math/big"
	"slices"
	"strconv"
	"strings"
	"testing"

	"victualler/api"
	"victualler/leaf"
	"victualler/prob"
	"victualler/simplex"
)

// program throws one of small numbers. Now and then a column that is to be whole
// lacks a bound.
func (d *dice) program() api.LP {
	var l api.LP
	for range 1 + d.below(3) {
		c := api.Col{Cost: strconv.Itoa(d.below(9) - 4), Int: d.below(3) > 0}
		low := big.NewRat(int64(d.below(9)-6), int64(1+d.below(5)/3))
		up := new(big.Rat).Add(low, big.NewRat(int64(d.below(5)), int64(1+d.below(5)/3)))
		if d.below(8) > 0 {
			c.Low = low.RatString()
		}
		if d.below(8) > 0 {
			c.Up = up.RatString()
		}
		l.Cols = append(l.Cols, c)
	}
	for range d.below(4) {
		r := api.Row{Kind: 1 + d.below(3), Rhs: big.NewRat(int64(d.below(11)-5), int64(1+d.below(2))).RatString()}
		for k := range l.Cols {
			if v := d.below(7) - 3; v != 0 {
				r.Coef = append(r.Coef, api.Coef{Col: k, V: strconv.Itoa(v)})
			}
		}
		l.Rows = append(l.Rows, r)
	}
	return l
}

// grown is a tree of thrown branches, each leaf solved; the least of their values
// is what it shows, "" if nothing fits. ok is false of what goes below all.
func (d *dice) grown(l api.LP) (tree []api.Node, least string, ok bool) {
	tree = []api.Node{{Col: -1}}
	parts := []api.LP{l}
	for at := 0; at < len(tree); at++ {
		part := parts[at]
		k := d.below(len(l.Cols))
		if l.Cols[k].Int && len(tree) < 30 && d.below(5) > 0 {
			cut := d.below(7) - 4
			left, right := part, part
			left.Cols, right.Cols = slices.Clone(part.Cols), slices.Clone(part.Cols)
			if up := &left.Cols[k].Up; *up == "" || number(*up).Cmp(big.NewRat(int64(cut), 1)) > 0 {
				*up = strconv.Itoa(cut)
			}
			if low := &right.Cols[k].Low; *low == "" || number(*low).Cmp(big.NewRat(int64(cut+1), 1)) < 0 {
				*low = strconv.Itoa(cut + 1)
			}
			tree[at] = api.Node{Col: k, At: strconv.Itoa(cut), Left: len(tree), Right: len(tree) + 1}
			tree = append(tree, api.Node{Col: -1}, api.Node{Col: -1})
			parts = append(parts, left, right)
			continue
		}
		a, may := simplex.Solve(part)
		if tree[at].Dual = a.Dual; !may {
			continue // it crosses
		}
		if a.Status == api.SUnbounded {
			return nil, "", false
		}
		if a.Status == api.SOptimal && (least == "" || number(a.Value).Cmp(number(least)) < 0) {
			least = a.Value
		}
	}
	return tree, least, true
}

// What is thrown is taken or not just as once more on big.Rat, changed or not.
func TestThrownTrees(t *testing.T) {
	d := dice(1)
	var taken, not, grown int
	for range 4000 {
		l := d.program()
		tree, least, ok := d.grown(l)
		if !ok {
			continue
		}
		if !leaf.Covers(l, tree, least, least == "") {
			t.Fatalf("P20.1: Covers does not take %v of %v at %q", tree, l, least)
		}
		if grown++; len(tree) == 1 {
			continue
		}
		for range 12 {
			bad, floor, all := d.changed(l, tree), least, least == ""
			if d.below(3) == 0 && !all {
				floor = new(big.Rat).Add(number(least), big.NewRat(int64(d.below(5)-2), int64(1+d.below(30)))).RatString()
			}
			if d.below(12) == 0 {
				all = !all
			}
			want := covers(l, bad, floor, all)
			if got := leaf.Covers(l, bad, floor, all); got != want {
				t.Fatalf("P20.1: Covers of %v, %v, %q, %v is %v", l, bad, floor, all, got)
			}
			if want {
				taken++
			} else {
				not++
			}
		}
	}
	if grown < 2000 || taken < 5000 || not < 5000 {
		t.Errorf("the throws are poor: %d trees, %d taken, %d not", grown, taken, not)
	}
}

// changed is a tree that is another one in a field or two, or not even that.
func (d *dice) changed(l api.LP, tree []api.Node) []api.Node {
	tree = slices.Clone(tree)
	for range d.below(3) {
		n := &tree[d.below(len(tree))]
		switch d.below(10) {
		case 0:
			n.Col = d.below(len(l.Cols)+2) - 1
		case 1:
			n.At = strconv.Itoa(d.below(9) - 4)
		case 2:
			n.At = []string{"", "1/2", "x", "00"}[d.below(4)]
		case 3:
			n.Left = d.below(len(tree)+2) - 1
		case 4:
			n.Left, n.Right = n.Right, n.Left
		case 5:
			tree = tree[:max(1, len(tree)-d.below(2))]
		case 6:
			tree = append(tree, api.Node{Col: -1})
		default:
			if len(n.Dual) > 0 {
				n.Dual = slices.Clone(n.Dual)
				n.Dual[d.below(len(n.Dual))] = []string{"0", "1", "-1", "1/2", "-2", "x"}[d.below(6)]
			}
		}
	}
	return tree
}

// points are all that have small numbers: whole ones where they are to be whole,
// else halves, too.
func points(l api.LP) [][]string {
	list := [][]string{nil}
	for _, c := range l.Cols {
		step := 1
		if c.Int {
			step = 2
		}
		var longer [][]string
		for _, x := range list {
			for n := -14; n <= 14; n += step {
				longer = append(longer, append(slices.Clone(x), big.NewRat(int64(n), 2).RatString()))
			}
		}
		list = longer
	}
	return list
}

// What is accepted is so: no point that fits and is whole is worth less, or none
// does.
func TestWhatIsAcceptedIsSo(t *testing.T) {
	d := dice(2)
	var seen [4]int
	for range 1200 {
		l := d.program()
		l.Cols = l.Cols[:min(2, len(l.Cols))]
		for k, r := range l.Rows {
			l.Rows[k].Coef = slices.DeleteFunc(r.Coef, func(c api.Coef) bool { return c.Col > 1 })
		}
		tree, least, ok := d.grown(l)
		if !ok {
			seen[0]++
			continue
		}
		fitting := slices.DeleteFunc(points(l), func(x []string) bool { return !prob.Fits(l, x) })
		for range 8 {
			changed := d.changed(l, tree)
			floor, all := least, d.below(2) == 0
			if len(fitting) > 0 && d.below(2) == 0 {
				floor, _ = prob.Value(l, fitting[d.below(len(fitting))])
			}
			if !leaf.Covers(l, changed, floor, all) {
				continue
			}
			seen[1]++
			for _, x := range fitting {
				if v, _ := prob.Value(l, x); all || number(v).Cmp(number(floor)) < 0 {
					t.Fatalf("V3: of %v %v fits, and Covers takes %v at %q, %v", l, x, changed, floor, all)
				}
			}
			for _, x := range fitting {
				if v, _ := prob.Value(l, x); leaf.Check(l, api.Answer{Status: best, Value: v, X: x}, changed) {
					if seen[2]++; v != bestOf(l, fitting) {
						t.Fatalf("V3: of %v Check takes %v at %s", l, x, v)
					}
				}
			}
			if leaf.Check(l, api.Answer{Status: less}, changed) {
				if seen[3]++; len(fitting) > 0 {
					t.Fatalf("V3: of %v %v fits, and Check takes that none does", l, fitting[0])
				}
			}
		}
	}
	if slices.Min(seen[1:]) < 500 {
		t.Errorf("the throws are poor: %v", seen)
	}
}

func bestOf(l api.LP, fitting [][]string) string {
	var least *big.Rat
	for _, x := range fitting {
		v, _ := prob.Value(l, x)
		if least == nil || number(v).Cmp(least) < 0 {
			least = number(v)
		}
	}
	return least.RatString()
}

// What is accepted to go below all does so: however far it goes, it fits and is
// whole.
func TestWhatGoesOn(t *testing.T) {
	d := dice(3)
	taken := 0
	for range 20_000 {
		l := d.program()
		l.Rows = l.Rows[:min(1, len(l.Rows))]
		a := api.Answer{Status: free}
		for k := range l.Cols {
			c := &l.Cols[k]
			if d.below(2) == 0 {
				c.Up = ""
			}
			x := number("0")
			if c.Low != "" {
				x = number(c.Low)
			}
			x = new(big.Rat).Add(x, big.NewRat(int64(d.below(4)), int64(1+d.below(6)/5)))
			way := big.NewRat(int64(max(0, d.below(9)-4)), int64(1+d.below(3)))
			a.X, a.Ray = append(a.X, x.RatString()), append(a.Ray, way.RatString())
		}
		if !leaf.Check(l, a, nil) {
			continue
		}
		taken++
		before := big.NewRat(1_000_000, 1)
		for _, far := range []int64{0, 1, 5, 1001} {
			x := slices.Clone(a.X)
			for k, step := range a.Ray {
				s := new(big.Rat).Mul(number(step), big.NewRat(far, 2))
				x[k] = s.Add(s, number(x[k])).RatString()
			}
			v, _ := prob.Value(l, x)
			if !prob.Fits(l, x) || !prob.Whole(l, x) || number(v).Cmp(before) >= 0 {
				t.Fatalf("V3: of %v %v does not fit, or is worth %s", l, x, v)
			}
			before = number(v)
		}
	}
	if taken < 200 {
		t.Errorf("the throws are poor: %d", taken)
	}
}

func FuzzCovers(f *testing.F) {
	f.Add(0, "1", 1, 2, "0", "-5/6", -1, "0", false)
	f.Add(1, "-3", 2, 1, "-20", "1", 0, "1", true)
	f.Add(2, "x", 601, -1, "1/2", "1", -2, "-1", true)
	f.Fuzz(func(t *testing.T, col int, at string, left, right int, floor, dual string, other int, second string, all bool) {
		if len(at) > 3000 || len(floor) > 3000 || strings.Contains(at+floor+dual+second, "_") {
			return
		}
		tree := []api.Node{{Col: col, At: at, Left: left, Right: right, Dual: []string{dual, second}}, {Col: other, At: at, Left: right, Right: left, Dual: []string{dual, second}}, {Col: -1, Dual: []string{second, dual}}}
		for n := range 4 {
			for _, l := range []api.LP{two(), lp("1 0 - int,0 - 3", "1 1 > 4", "1 -1 = 1/2")} {
				if got := leaf.Covers(l, tree[:n], floor, all); got != covers(l, tree[:n], floor, all) {
					t.Fatalf("P20.1: Covers of %v, %v, %q, %v is %v", l, tree[:n], floor, all, got)
				}
			}
		}
	})
}
