package basis_test

import (
	"fmt"
	"math"
	"math/big"
	"slices"
	"testing"

	"victualler/basis"
	"victualler/frac"
)

// everything tells all that a Basis says, and of some numbers.
func everything(b *basis.Basis, y []*frac.Frac) string {
	s := fmt.Sprint(b.Size(), told(b.Solve(y)), told(b.Turned(y)))
	for k := range b.Size() {
		s += fmt.Sprint(" ", told(b.Col(k)))
	}
	return s
}

// some has columns of a lone number, of a few, and of long ones.
func some(t *testing.T) (*basis.Basis, grid) {
	t.Helper()
	b, g := basis.New(4), units(4)
	g = put(t, b, g, 1, rats("0 -7/3 0 0"))
	g = put(t, b, g, 2, rats("1 18446744073709551617/2 1/18446744073709551617 0"))
	g = put(t, b, g, 3, rats("0 1 0 -5"))
	return b, g
}

// A list that is handed in, its numbers and its spare room stay as they are,
// and who writes over them changes nothing.
func TestListsAreNeitherChangedNorKept(t *testing.T) {
	for _, text := range []string{"1/2 18446744073709551617 3 -4", "0 0 1 0", "0 0 -3/2 0", "0 0 0 0"} {
		b, g := some(t)
		for what, call := range map[string]func([]*frac.Frac) []*frac.Frac{
			"Solve":  b.Solve,
			"Turned": b.Turned,
			"Put": func(col []*frac.Frac) []*frac.Frac {
				g = put(t, b, g, 2, rats(text))
				b.Put(2, col)
				return nil
			},
		} {
			full := fractions(rats(text + " 5 6"))
			before := slices.Clone(full)
			answer := call(full[:4])
			if !slices.Equal(full, before) || !slices.Equal(told(full), rats(text+" 5 6").texts()) {
				t.Errorf("P0.3: %s made %v of its list", what, told(full))
			}
			want := told(answer)
			for k := range full {
				*full[k] = *frac.Of(int64(8 + k))
				full[k] = nil
			}
			if !slices.Equal(told(answer), want) {
				t.Errorf("P0.3: with its list %s's answer changed to %v", what, told(answer))
			}
			if again := call(fractions(rats(text))); !slices.Equal(told(again), want) {
				t.Errorf("P0.5: %s of %s is %v, not %v", what, text, told(again), want)
			}
		}
		same(t, "behind "+text, b, g)
	}
}

// write writes over all that an answer has, spare room too.
func write(l []*frac.Frac) {
	for k, x := range l {
		*x = *frac.Of(77)
		l[k] = nil
	}
	for k := range l[:cap(l)] {
		l[:cap(l)][k] = frac.Of(77)
	}
}

func TestAnswersAreNewMemory(t *testing.T) {
	b, g := some(t)
	for _, c := range []struct {
		b *basis.Basis
		g grid
	}{{b, g}, {basis.New(3), units(3)}, {basis.New(0), units(0)}} {
		for _, y := range append([]list{c.g.sum(), noughts(len(c.g))}, units(len(c.g))...) {
			write(c.b.Solve(fractions(y)))
			write(c.b.Turned(fractions(y)))
		}
		for k := range c.g {
			write(c.b.Col(k))
		}
		same(t, "what was written over", c.b, c.g)
	}
}

// sum is the columns' sum.
func (g grid) sum() list {
	sum := noughts(len(g))
	for _, col := range g {
		for i, v := range col {
			sum[i].Add(sum[i], v)
		}
	}
	return sum
}

// No two numbers of any answers, and none that was handed in, are one *Frac.
func TestNumbersAreNewMemory(t *testing.T) {
	for _, text := range []string{"0 0 0 0", "1 1 1 1", "18446744073709551617 18446744073709551617 0 0", "1/2 1/2 1/2 -1/2"} {
		for _, b := range []*basis.Basis{basis.New(4), func() *basis.Basis { b, _ := some(t); return b }()} {
			y := fractions(rats(text))
			all := slices.Concat(y, b.Solve(y), b.Turned(y), b.Solve(y), b.Turned(y))
			for k := range 4 {
				all = append(all, slices.Concat(b.Col(k), b.Col(k))...)
			}
			for k := range all {
				before := told(all)
				before[k] = "77"
				*all[k] = *frac.Of(77)
				if !slices.Equal(told(all), before) {
					t.Fatalf("P0.3: of %s to write over number %d changed others", text, k)
				}
			}
		}
	}
}

// What is not put changes nothing, and one Basis has nothing of another.
func TestEachIsItsOwn(t *testing.T) {
	first, g := some(t)
	second, h := some(t)
	y := fractions(rats("1 2 3/5 -4"))
	before := everything(first, y)
	third := *first
	g3 := g
	for at, text := range []string{"1 2 3 5", "1/3 1 2 3", "0 0 9 0", "1 0 0 1/9"} {
		h = put(t, second, h, at, rats(text))
		if got := everything(first, y); got != before {
			t.Fatalf("P0.5: another one's Put made %s of %s", got, before)
		}
		g3 = put(t, &third, g3, at, rats(text))
		if got := everything(first, y); got != before {
			t.Fatalf("P0.5: a copy's Put made %s of %s", got, before)
		}
	}
	same(t, "the second", second, h)
	same(t, "the copy", &third, g3)
	g = put(t, first, g, 0, rats("2 2 2 1"))
	same(t, "the first", first, g)
	same(t, "the copy", &third, g3)
	*first = basis.Basis{}
	same(t, "the copy", &third, g3)
}

// The same comes of the same calls, however often what is asked in between.
func TestTheSameEachTime(t *testing.T) {
	d := dice(8)
	var puts []list
	for range 12 {
		puts = append(puts, d.list(5))
	}
	y := fractions(d.list(5))
	build := func(asked int) string {
		b := basis.New(5)
		for k, col := range puts {
			b.Put(k%5, fractions(col))
			for range asked {
				everything(b, y)
			}
		}
		return everything(b, y)
	}
	want := build(0)
	for asked := range 3 {
		if got := build(asked); got != want {
			t.Errorf("P0.5: %s is not %s", got, want)
		}
	}
}

// A nil number is 0, and so is an empty one.
func TestNilNumbers(t *testing.T) {
	for _, nought := range []*frac.Frac{nil, {}, frac.Of(0)} {
		b, g := basis.New(3), units(3)
		if !b.Put(0, []*frac.Frac{frac.Of(2), nought, frac.Of(1)}) || b.Put(1, []*frac.Frac{nought, nought, frac.Of(4)}) || b.Put(1, []*frac.Frac{nought, nought, nought}) {
			t.Error("P0.1: Put of nil numbers")
		}
		g[0] = rats("2 0 1")
		if !b.Put(2, []*frac.Frac{nought, nought, frac.Of(3)}) {
			t.Error("P0.1: Put of nil numbers")
		}
		g[2] = rats("0 0 3")
		same(t, "nil numbers", b, g)
		x, z := b.Solve([]*frac.Frac{frac.Of(4), nought, nought}), b.Turned([]*frac.Frac{nought, frac.Of(5), frac.Of(6)})
		if !slices.Equal(told(x), []string{"2", "0", "-2/3"}) || !slices.Equal(told(z), []string{"-1", "5", "2"}) {
			t.Errorf("P0.1: of nil numbers Solve is %v, Turned %v", told(x), told(z))
		}
		x, z = b.Solve([]*frac.Frac{nought, nought, nought}), b.Turned([]*frac.Frac{nought, nought, nought})
		if !slices.Equal(told(x), []string{"0", "0", "0"}) || !slices.Equal(told(z), []string{"0", "0", "0"}) {
			t.Errorf("P0.1: of nil numbers Solve is %v, Turned %v", told(x), told(z))
		}
	}
}

// nil, and one that New did not make, are of Size 0.
func TestNilIsOfNothing(t *testing.T) {
	var none *basis.Basis
	for k, b := range []*basis.Basis{none, {}, basis.New(0)} {
		if b.Size() != 0 {
			t.Errorf("P15.1, %d: Size is %d", k, b.Size())
		}
		for _, at := range []int{math.MinInt, -1, 0, 1, math.MaxInt} {
			if b.Col(at) != nil {
				t.Errorf("P15.1, %d: Col(%d) is %v", k, at, told(b.Col(at)))
			}
			for _, col := range [][]*frac.Frac{nil, {}, {nil}, {frac.Of(1)}, {frac.Of(1), frac.Of(2)}} {
				if b.Put(at, col) {
					t.Errorf("P15.1, %d: Put(%d, %v) is done", k, at, told(col))
				}
			}
		}
		for _, y := range [][]*frac.Frac{nil, {}} {
			if x, z := b.Solve(y), b.Turned(y); len(x) != 0 || len(z) != 0 || b == nil && (x != nil || z != nil) {
				t.Errorf("P15.1, P0.4, %d: of no numbers Solve is %v, Turned %v", k, told(x), told(z))
			}
		}
		for _, y := range [][]*frac.Frac{{nil}, {frac.Of(1)}, {frac.Of(1), nil}} {
			if x, z := b.Solve(y), b.Turned(y); x != nil || z != nil {
				t.Errorf("P15.1, %d: of %v Solve is %v, Turned %v", k, told(y), told(x), told(z))
			}
		}
	}
}

func FuzzPut(f *testing.F) {
	f.Add(0, "2", "1", "3", 1, "1", "0", "1", "5", "7", "1/3")
	f.Add(2, "1/2", "-3", "0", 0, "1/2", "-3", "4294967296", "0", "0", "1")
	f.Add(1, "0", "18446744073709551615", "0", -1, "1", "x", "1", "1", "1/0", "1")
	f.Fuzz(func(t *testing.T, at int, p, q, r string, then int, u, v, w string, y0, y1, y2 string) {
		texts := func(words ...string) (l list) {
			for _, s := range words {
				x, _ := frac.Get(s)
				y, _ := new(big.Rat).SetString(x.Text())
				l = append(l, y)
			}
			return l
		}
		b, g := basis.New(3), units(3)
		for _, x := range []struct {
			at  int
			col list
		}{{at, texts(p, q, r)}, {then, texts(u, v, w)}} {
			if x.at >= 0 && x.at < 3 {
				g = put(t, b, g, x.at, x.col)
			} else if b.Put(x.at, fractions(x.col)) {
				t.Fatalf("P15.1: Put(%d) is done", x.at)
			}
			is(t, "a fuzzed one", b, g)
			solves(t, "a fuzzed one", b, g, texts(y0, y1, y2))
		}
	})
}
