package simplex_test

import (
	"fmt"
	"math/big"
	"math/bits"
	"strconv"
	"testing"

	"victualler/api"
)

// Programs at which a simplex method goes round, goes a long way, or loses itself
// where more rows meet than a corner needs.

// cone has rows that all meet in 0, and a box around it.
func cone(d *dice, cols, rows, size int, kinds ...int) api.LP {
	var l api.LP
	for range cols {
		l.Cols = append(l.Cols, api.Col{Cost: strconv.Itoa(d.below(2*size+1) - size), Low: "0", Up: "100"})
	}
	for k := range rows {
		texts := make([]int, cols)
		for j := range texts {
			texts[j] = d.below(2*size+1) - size
		}
		l.Rows = append(l.Rows, api.Row{Kind: kinds[k%len(kinds)], Coef: coefs(integers(texts)), Rhs: "0"})
	}
	return l
}

func TestCones(t *testing.T) {
	d := dice(5)
	for _, n := range []int{5, 10, 20, 40, 60} {
		for _, size := range []int{1, 3, 50} {
			ends(t, fmt.Sprint("a cone of ", n), cone(&d, n, 3*n, size, api.RLess, api.RMore), best)
			solved(t, "a cone with lines", cone(&d, n, n, size, api.RLess, api.REqual, api.RMore))
		}
	}
}

// Where all rows are equalities of 0 a corner of many columns has none of its own.
func TestLinesThroughNought(t *testing.T) {
	d := dice(6)
	for _, n := range []int{6, 20, 60} {
		for _, bounds := range [][2]string{{"0", "10"}, {"-3", "10"}, {"", ""}, {"0", ""}, {"", "7"}} {
			l := cone(&d, n, n/2, 9, api.REqual)
			for k := range l.Cols {
				l.Cols[k].Low, l.Cols[k].Up = bounds[0], bounds[1]
			}
			solved(t, "lines through 0", l)
		}
	}
}

// The same row often, alone and by factors, and sums of rows.
func TestRowsThatSayTheSame(t *testing.T) {
	d := dice(7)
	for range 40 {
		l := thrown(&d, 3+d.below(6), 3)
		want := solved(t, "three rows", l)
		for range 12 {
			r := l.Rows[d.below(3)]
			f := big.NewRat(int64(1+d.below(5)), int64(1+d.below(5)))
			again := api.Row{Kind: r.Kind, Rhs: new(big.Rat).Mul(rat(r.Rhs), f).RatString()}
			for _, c := range r.Coef {
				again.Coef = append(again.Coef, api.Coef{Col: c.Col, V: new(big.Rat).Mul(rat(c.V), f).RatString()})
			}
			l.Rows = append(l.Rows, again)
		}
		is(t, "the same rows", l, want.Status, want.Value)
	}
}

// pairs has a column for each of n by n pairs, of which each one is in one.
func pairs(d *dice, n int) (l api.LP, costs [][]int) {
	costs = make([][]int, n)
	for i := range n {
		for range n {
			cost := d.below(100)
			costs[i] = append(costs[i], cost)
			l.Cols = append(l.Cols, api.Col{Cost: strconv.Itoa(cost), Low: "0"})
		}
	}
	for i := range n {
		first, second := make([]int, n*n), make([]int, n*n)
		for j := range n {
			first[i*n+j], second[j*n+i] = 1, 1
		}
		for _, list := range [][]int{first, second} {
			l.Rows = append(l.Rows, api.Row{Kind: api.REqual, Rhs: "1", Coef: coefs(integers(list))})
		}
	}
	return l, costs
}

// leastPairs is what the best pairs cost, by all sets of the second ones.
func leastPairs(costs [][]int) int {
	n := len(costs)
	least := make([]int, 1<<n)
	for set := 1; set < len(least); set++ {
		i := bits.OnesCount(uint(set)) - 1
		least[set] = 1 << 30
		for j := range n {
			if set&(1<<j) != 0 {
				least[set] = min(least[set], least[set&^(1<<j)]+costs[i][j])
			}
		}
	}
	return least[len(least)-1]
}

func TestPairs(t *testing.T) {
	d := dice(8)
	for n := 1; n <= 10; n++ {
		for range 3 {
			l, costs := pairs(&d, n)
			is(t, fmt.Sprint("pairs of ", n), l, best, strconv.Itoa(leastPairs(costs)))
			l.Rows[0].Rhs = "2"
			is(t, fmt.Sprint("pairs of ", n, " and one more"), l, none, "")
		}
	}
}

// What flows round in a net, each place giving on what it gets.
func TestFlows(t *testing.T) {
	d := dice(9)
	for _, places := range []int{3, 10, 30, 60} {
		var l api.LP
		lists := make([][]int, places)
		for k := range lists {
			lists[k] = make([]int, 100)
		}
		for k := range 100 {
			from := d.below(places)
			lists[from][k], lists[(from+1+d.below(places-1))%places][k] = 1, -1
			l.Cols = append(l.Cols, api.Col{Cost: strconv.Itoa(d.below(41) - 20), Low: "0", Up: strconv.Itoa(1 + d.below(20))})
		}
		for _, list := range lists {
			l.Rows = append(l.Rows, api.Row{Kind: api.REqual, Rhs: "0", Coef: coefs(integers(list))})
		}
		a := solved(t, "a flow", l)
		for _, s := range append(a.X, a.Dual...) {
			if !rat(s).IsInt() {
				t.Errorf("P16.1: of %d places %s flows", places, s)
			}
		}
	}
}

func power(base, k int) *big.Int {
	return new(big.Int).Exp(big.NewInt(int64(base)), big.NewInt(int64(k)), nil)
}

// twisted are Klee's and Minty's cubes: some methods go to each of 2^n corners.
func twisted(n int) api.LP {
	var l api.LP
	for i := range n {
		l.Cols = append(l.Cols, api.Col{Cost: "-" + power(2, n-1-i).String(), Low: "0"})
		r := api.Row{Kind: api.RLess, Rhs: power(5, i+1).String()}
		for j := range i {
			r.Coef = append(r.Coef, api.Coef{Col: j, V: power(2, i-j+1).String()})
		}
		r.Coef = append(r.Coef, api.Coef{Col: i, V: "1"})
		l.Rows = append(l.Rows, r)
	}
	return l
}

// squeezed is the other form of them, by thirds.
func squeezed(n int) api.LP {
	l := api.LP{Cols: []api.Col{{Cost: "0", Low: "0", Up: "1"}}}
	for k := 1; k < n; k++ {
		l.Cols = append(l.Cols, api.Col{Cost: "0"})
		l.Rows = append(l.Rows,
			api.Row{Kind: api.RMore, Rhs: "0", Coef: []api.Coef{{Col: k - 1, V: "-1/3"}, {Col: k, V: "1"}}},
			api.Row{Kind: api.RLess, Rhs: "1", Coef: []api.Coef{{Col: k - 1, V: "1/3"}, {Col: k, V: "1"}}})
	}
	l.Cols[n-1].Cost = "-1"
	return l
}

func TestTwistedCubes(t *testing.T) {
	for _, n := range []int{1, 2, 3, 10, 30, 100} {
		is(t, fmt.Sprint("a twisted cube of ", n), twisted(n), best, "-"+power(5, n).String())
		is(t, fmt.Sprint("a squeezed cube of ", n), squeezed(n), best, "-1")
		l := squeezed(n)
		l.Cols[n-1].Cost = "1"
		is(t, fmt.Sprint("a squeezed cube of ", n), l, best, "0")
	}
}
