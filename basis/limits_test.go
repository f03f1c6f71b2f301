package basis_test

import (
	"fmt"
	"math/big"
	"runtime"
	"slices"
	"strings"
	"testing"

	"victualler/basis"
	"victualler/mat"
)

// Hilbert's matrices have great inverses.
func TestLongParts(t *testing.T) {
	for _, n := range []int{5, 12} {
		b, g := basis.New(n), units(n)
		for at := range n {
			col := make(list, n)
			for k := range col {
				col[k] = big.NewRat(1, int64(at+k+1))
			}
			g = put(t, b, g, at, col)
		}
		same(t, fmt.Sprint("Hilbert's ", n), b, g)
	}
}

// At the sizes where words end, each by each.
func TestEdgesOfWords(t *testing.T) {
	for _, p := range edges {
		for _, q := range edges {
			b, g := basis.New(2), units(2)
			g = put(t, b, g, 0, rats(p+" -"+q))
			g = put(t, b, g, 1, rats("1/"+q+" "+p))
			same(t, p+", "+q, b, g)
			g = put(t, b, g, 0, rats("-"+q+" "+p+"/"+q))
			same(t, p+", "+q, b, g)
			g = put(t, b, g, 1, rats("3 "+q))
			for _, y := range edges {
				solves(t, p+", "+q, b, g, rats(y+" -1/"+y))
				solves(t, p+", "+q, b, g, rats("-"+y+"/"+q+" "+y+"/"+p))
			}
		}
	}
}

// No limit is named for numbers: these are longer than texts may be.
func TestNumbersLongerThanTexts(t *testing.T) {
	long := rats(strings.Repeat("7", 2500) + " -" + strings.Repeat("1", 2001) + "/" + strings.Repeat("3", 2100))
	third := new(big.Rat).Quo(long[1], long[0])
	b, g := basis.New(3), units(3)
	g = put(t, b, g, 1, list{long[0], long[1], big.NewRat(1, 3)})
	same(t, "a long one", b, g)
	g = put(t, b, g, 0, list{third, new(big.Rat).Neg(third), long[1]})
	g = put(t, b, g, 2, list{third, new(big.Rat).Neg(third), new(big.Rat).Sub(long[1], long[0])})
	same(t, "long ones", b, g)
	solves(t, "long ones", b, g, list{third, long[0], long[1]})
	g = put(t, b, g, 1, list{third, new(big.Rat).Neg(third), long[0]})
	g = put(t, b, g, 1, list{third, third, third})
	same(t, "long ones", b, g)
}

// Of columns of their own one row's denominators have nothing in common, nor
// have the numbers that are asked for.
func TestPrimes(t *testing.T) {
	const n = 30
	b, g := basis.New(n), units(n)
	p, y := big.NewInt(1<<40), list{}
	next := func() *big.Int {
		for p.Add(p, big.NewInt(1)); !p.ProbablyPrime(0); p.Add(p, big.NewInt(1)) {
		}
		return new(big.Int).Set(p)
	}
	g = put(t, b, g, 0, append(rats("1 1"), noughts(n-2)...))
	for at := 1; at < n; at++ {
		col := noughts(n)
		col[0].SetFrac(big.NewInt(int64(at)), next())
		col[at].SetInt64(2)
		g = put(t, b, g, at, col)
	}
	for range n {
		y = append(y, new(big.Rat).SetFrac(big.NewInt(3), next()))
	}
	is(t, "primes", b, g)
	solves(t, "primes", b, g, y)
	g = put(t, b, g, 0, y)
	solves(t, "primes", b, g, y)
}

// However many columns were there before, what is kept is as long as those that
// are there make it: the same Puts take as much memory as ever.
func TestNothingGrows(t *testing.T) {
	b, cols := basis.New(3), []list{rats("1 2 1"), rats("3 -1 2/3"), rats("1/2 5 0"), rats("-1 7 1"), rats("4 1/3 1")}
	if !b.Put(1, fractions(rats("2 3 1"))) || !b.Put(2, fractions(rats("1 0 5"))) {
		t.Fatal("P15.1: Put to units")
	}
	puts := func() uint64 {
		var before, after runtime.MemStats
		runtime.ReadMemStats(&before)
		for _, col := range cols {
			if !b.Put(0, fractions(col)) {
				t.Fatalf("P15.1: Put of %v", col.texts())
			}
		}
		runtime.ReadMemStats(&after)
		return after.TotalAlloc - before.TotalAlloc
	}
	puts()
	first := puts()
	for k := range 1000 {
		if !b.Put(0, fractions(list{big.NewRat(int64(100+k), 1), big.NewRat(1, 1), new(big.Rat)})) {
			t.Fatalf("P15.1: Put of %d", 100+k)
		}
		puts()
	}
	if last := puts(); last > 2*first {
		t.Errorf("P15.1: five columns took %d bytes, and %d behind many", first, last)
	}
	same(t, "one of many", b, grid{cols[4], rats("2 3 1"), rats("1 0 5")})
}

// most is api.MaxTall.
const most = 440

// Of columns with one number each every number is asked for alone.
func TestLoneNumbersAtTheLimit(t *testing.T) {
	b, g, y := basis.New(most), units(most), noughts(most)
	for at := range g {
		col := noughts(most)
		col[at].SetFrac64(int64(at*at+1), int64(at+2))
		if !b.Put(at, fractions(col)) {
			t.Fatalf("P15.1: of 440 one number at %d is none", at)
		}
		g[at] = col
		y[at].SetString(strings.Repeat("7", 1800) + "/" + fmt.Sprint(at+1))
	}
	is(t, "440 numbers", b, g)
	solves(t, "440 numbers", b, g, y)
	all := make(list, most)
	for k := range all {
		all[k] = big.NewRat(int64(k-7), int64(k%5+1))
	}
	if b.Put(7, fractions(all)) || !b.Put(439, fractions(all)) || b.Put(8, fractions(all)) {
		t.Error("P15.1: of 440 a full column")
	}
	g[439] = all
	is(t, "440 numbers and a full column", b, g)
	solves(t, "440 numbers and a full column", b, g, y)
}

// Three diagonals have a full inverse.
func TestThreeDiagonalsAtTheLimit(t *testing.T) {
	b, g := basis.New(most), units(most)
	for at := range g {
		col := noughts(most)
		col[at].SetInt64(2)
		if at > 0 {
			col[at-1].SetInt64(-1)
		}
		if at+1 < most {
			col[at+1].SetInt64(-1)
		}
		if !b.Put(at, fractions(col)) {
			t.Fatalf("P15.1: of three diagonals column %d is none", at)
		}
		g[at] = col
	}
	is(t, "three diagonals", b, g)
	for _, at := range []int{0, 1, 200, 439} {
		solves(t, "three diagonals", b, g, unit(most, at))
	}
	if b.Put(5, fractions(g[6])) || b.Put(5, fractions(noughts(most))) || !b.Put(5, fractions(g[5])) {
		t.Error("P15.1: of three diagonals a column twice")
	}
	is(t, "three diagonals behind all", b, g)
}

// So are the bases of a linear program at its limits: units of either sign for
// the most part, and among them 100 columns that come and go.
func TestColumnsOfALinearProgram(t *testing.T) {
	d := dice(6)
	b, g, puts := basis.New(most), units(most), 0
	for at := 0; at < most; at += 2 {
		g[at][at].SetInt64(-1)
		if !b.Put(at, fractions(g[at])) {
			t.Fatalf("P15.1: -1 at %d is none", at)
		}
	}
	for round := range 150 {
		at, col := d.below(100)*4, noughts(most)
		col[at].SetInt64(int64(d.below(4) - 4))
		for range 3 {
			col[d.below(100)*4+d.below(2)].SetInt64(int64(d.below(9) - 4))
		}
		switch round % 10 {
		case 8:
			col = unit(most, at)
		case 9:
			col = unit(most, d.below(most))
		}
		// The column has a share of this place just if it may stand here.
		x := b.Solve(fractions(col))
		if ok := b.Put(at, fractions(col)); ok != (x[at].Sign() != 0) {
			t.Fatalf("P15.1, %d: Put(%d) is %v, by Solve %s of it is in the column", round, at, ok, x[at].Text())
		}
		if x[at].Sign() != 0 {
			g[at] = col
			puts++
		}
		if round%30 == 29 {
			is(t, "a linear program's", b, g)
			solves(t, "a linear program's", b, g, d.list(most))
		}
	}
	if puts < 50 || puts == 150 {
		t.Errorf("%d of 150 columns were put", puts)
	}
}

// What mat makes of the columns is the same.
func TestAsMat(t *testing.T) {
	d := dice(7)
	for range 20 {
		n := 1 + d.below(25)
		b, rows := basis.New(n), make([][]string, n)
		for k := range rows {
			rows[k] = unit(n, k).texts()
		}
		for range n {
			at, col := d.below(n), noughts(n)
			for range 1 + n/3 {
				col[d.below(n)].SetFrac64(int64(d.below(19)-9), int64(d.below(2)+1))
			}
			before := rows[at]
			rows[at] = col.texts()
			turned, _ := mat.New(rows)
			_, want := turned.Inverse()
			if ok := b.Put(at, fractions(col)); ok != want {
				t.Fatalf("P15.1: Put is %v, mat.Inverse %v", ok, want)
			}
			if !want {
				rows[at] = before
			}
		}
		turned, _ := mat.New(rows)
		y := fractions(d.list(n))
		z, _ := turned.Solve(y)
		x, _ := turned.Turn().Solve(y)
		if !slices.Equal(told(b.Solve(y)), told(x)) || !slices.Equal(told(b.Turned(y)), told(z)) {
			t.Fatalf("P15.1: Solve is %v, not %v; Turned %v, not %v", told(b.Solve(y)), told(x), told(b.Turned(y)), told(z))
		}
	}
}
