package vec_test

import (
	"fmt"
	"maps"
	"math"
	"math/big"
	"slices"
	"strconv"
	"strings"
	"testing"

	"victualler/api"
	"victualler/frac"
	"victualler/vec"
)

// dice throws numbers that are the same in every run.
type dice uint64

func (d *dice) below(n int) int {
	*d = *d*6364136223846793005 + 1442695040888963407
	return int(*d>>33) % n
}

// plain is a vector as the chapter means it: of each column a fraction, what
// isn't there is 0.
type plain map[int]*big.Rat

func (p plain) at(i int) *big.Rat {
	if x, ok := p[i]; ok {
		return x
	}
	return new(big.Rat)
}

// coefs are those that Coefs is to tell.
func (p plain) coefs() []api.Coef {
	var cs []api.Coef
	for _, i := range slices.Sorted(maps.Keys(p)) {
		if p[i].Sign() != 0 {
			cs = append(cs, api.Coef{Col: i, V: p[i].RatString()})
		}
	}
	return cs
}

func (p plain) add(k *big.Rat, q plain) plain {
	sum := plain{}
	for i, x := range p {
		sum[i] = x
	}
	for i, x := range q {
		sum[i] = new(big.Rat).Add(sum.at(i), new(big.Rat).Mul(k, x))
	}
	return sum
}

func (p plain) dot(q plain) *big.Rat {
	sum := new(big.Rat)
	for i, x := range p {
		sum.Add(sum, new(big.Rat).Mul(x, q.at(i)))
	}
	return sum
}

// rat throws a fraction, often 0, now and then with long parts.
func (d *dice) rat() *big.Rat {
	upper, lower := int64(d.below(9)-4), int64(d.below(4)+1)
	if d.below(5) == 0 {
		upper, lower = upper*math.MaxInt64/4, math.MaxInt64-int64(d.below(9))
	}
	x := big.NewRat(upper, lower)
	if d.below(9) == 0 {
		x.Mul(x, x)
	}
	return x
}

// vector throws a vector of columns below n, and its Coefs in any order.
func (d *dice) vector(n int) (plain, []api.Coef) {
	p, cs := plain{}, []api.Coef{}
	for range d.below(n) + 1 {
		i := d.below(n)
		if _, there := p[i]; there {
			continue
		}
		p[i] = d.rat()
		cs = slices.Insert(cs, d.below(len(cs)+1), api.Coef{Col: i, V: p[i].RatString()})
	}
	return p, cs
}

// of makes the vector of cs.
func of(t *testing.T, cs ...api.Coef) *vec.Vec {
	t.Helper()
	v, ok := vec.New(cs...)
	if !ok || v == nil {
		t.Fatalf("P5.1: New(%.80v) is nothing", cs)
	}
	return v
}

func get(t *testing.T, s string) *frac.Frac {
	t.Helper()
	x, ok := frac.Get(s)
	if !ok {
		t.Fatalf("no fraction: %.40s", s)
	}
	return x
}

// same holds what a vector tells against the plain one: Coefs, Len, At.
func same(t *testing.T, what string, v *vec.Vec, want plain) {
	t.Helper()
	cs := want.coefs()
	if got := v.Coefs(); !slices.Equal(got, cs) {
		t.Errorf("P5.1: Coefs of %.120s are %.200v, not %.200v", what, got, cs)
	}
	if v.Len() != len(cs) {
		t.Errorf("P5.1: Len of %.120s is %d, not %d", what, v.Len(), len(cs))
	}
	for i := -2; i < 1003; i++ {
		x := v.At(i)
		if x == nil || x.Text() != want.at(i).RatString() {
			t.Errorf("P5.1: At(%d) of %.120s is %.60s, not %.60s", i, what, x.Text(), want.at(i).RatString())
		}
	}
}

func TestNewInAnyOrder(t *testing.T) {
	d := dice(1)
	for _, n := range []int{1, 2, 3, 8, 40, 1000} {
		for range 30 {
			p, cs := d.vector(n)
			same(t, fmt.Sprint("New", cs), of(t, cs...), p)
		}
	}
}

func TestNewOfAllOrders(t *testing.T) {
	cs := []api.Coef{{Col: 0, V: "1"}, {Col: 3, V: "-1/2"}, {Col: 4, V: "0"}, {Col: 999, V: "7"}}
	want := []api.Coef{cs[0], cs[1], cs[3]}
	var orders func(k int)
	orders = func(k int) {
		if k == len(cs) {
			if got := of(t, cs...).Coefs(); !slices.Equal(got, want) {
				t.Errorf("P5.1: Coefs of New(%v) are %v", cs, got)
			}
			return
		}
		for i := k; i < len(cs); i++ {
			cs[k], cs[i] = cs[i], cs[k]
			orders(k + 1)
			cs[k], cs[i] = cs[i], cs[k]
		}
	}
	orders(0)
}

func TestNewOfAllColumns(t *testing.T) {
	p, cs := plain{}, []api.Coef{}
	for i := 999; i >= 0; i-- {
		p[i] = big.NewRat(int64(i%7-3), 2)
		cs = append(cs, api.Coef{Col: i, V: p[i].RatString()})
	}
	same(t, "New of all columns", of(t, cs...), p)
	for _, more := range []api.Coef{{Col: 1000, V: "1"}, {Col: 0, V: "1"}, {Col: 3, V: "0"}, {Col: -1, V: "0"}} {
		nothing(t, append(slices.Clone(cs), more))
	}
}

// nothing holds that there is no vector of cs.
func nothing(t *testing.T, cs []api.Coef) {
	t.Helper()
	if v, ok := vec.New(cs...); ok || v != nil {
		t.Errorf("P5.1, P0.2: New(%.80v) is %.80v, %v", cs, v.Coefs(), ok)
	}
}

// A wrong Coef counts wherever it stands, and where it would be left out too.
func TestNewOfNoVector(t *testing.T) {
	good := []api.Coef{{Col: 5, V: "1"}, {Col: 2, V: "-3/4"}, {Col: 900, V: "0"}}
	wrong := []api.Coef{{Col: 5, V: "1"}, {Col: 5, V: "-1"}, {Col: 2, V: "0"}, {Col: 900, V: "0"}, {Col: 900, V: "1"}}
	for _, i := range []int{-1, 1000, 1001, -1000, 1 << 31, 1 << 32, 1<<32 + 7, math.MaxInt, math.MinInt} {
		wrong = append(wrong, api.Coef{Col: i, V: "1"}, api.Coef{Col: i, V: "0"})
	}
	long := strings.Repeat("9", 2001)
	for _, s := range []string{"", " ", "x", "-", "+1", "01", "-0", "0/1", "2/4", "1/1", "1/0", "0.5", "1e3", "1 ", " 1", "1\n", "1/-2", "inf", "\xff", "1\x00", long, "-" + long, "1/" + long} {
		wrong = append(wrong, api.Coef{Col: 7, V: s})
	}
	for _, bad := range wrong {
		for k := range len(good) + 1 {
			nothing(t, slices.Insert(slices.Clone(good), k, bad))
		}
	}
	nothing(t, []api.Coef{{Col: 1, V: "0"}, {Col: 1, V: "0"}})
	nothing(t, []api.Coef{{}})
	nothing(t, make([]api.Coef, 1<<20))
}

func TestNewAtTheLimitOfTexts(t *testing.T) {
	nines := strings.Repeat("9", 2000)
	for _, s := range []string{nines, "-" + nines, "1/" + nines, nines + "/2", "-" + nines[1:] + "8/" + nines} {
		v := of(t, api.Coef{Col: 0, V: s})
		if got := v.Coefs(); len(got) != 1 || got[0] != (api.Coef{Col: 0, V: s}) || v.At(0).Text() != s {
			t.Errorf("P5.1: Coefs of a text of %d bytes are others", len(s))
		}
	}
	// What comes of them may be longer.
	v := of(t, api.Coef{Col: 0, V: nines}, api.Coef{Col: 1, V: "1/" + nines})
	x, _ := new(big.Rat).SetString(nines)
	square := new(big.Rat).Mul(x, x)
	same(t, "long sums", v.Add(get(t, nines), v), plain{0: square.Add(square, x), 1: new(big.Rat).Add(new(big.Rat).Inv(x), big.NewRat(1, 1))})
}

func TestNewOfNothing(t *testing.T) {
	for k, cs := range [][]api.Coef{nil, {}, {{Col: 3, V: "0"}}, {{Col: 3, V: "0"}, {Col: 0, V: "0"}, {Col: 999, V: "0"}}} {
		v, ok := vec.New(cs...)
		if !ok || v == nil || v.Len() != 0 || len(v.Coefs()) != 0 {
			t.Errorf("P5.1, P0.4, %d: New of nothing is %v, %v", k, v.Coefs(), ok)
		}
		same(t, "New of nothing", v, plain{})
	}
	if v, ok := vec.New(); !ok || v == nil || v.Len() != 0 {
		t.Error("P5.1, P0.4: New() is nothing")
	}
}

func TestAtOfNothing(t *testing.T) {
	v := of(t, api.Coef{Col: 0, V: "1"}, api.Coef{Col: 7, V: "2"}, api.Coef{Col: 999, V: "3"})
	for _, i := range []int{math.MinInt, -1000, -999, -7, -1, 1, 6, 8, 998, 1000, 1 << 32, 1<<32 + 7, math.MaxInt} {
		for _, w := range []*vec.Vec{v, nil, new(vec.Vec), of(t)} {
			if x := w.At(i); x == nil || x.Text() != "0" || x.Sign() != 0 {
				t.Errorf("P5.1: At(%d) of %v is %s", i, w.Coefs(), x.Text())
			}
		}
	}
}

func TestAddAndDot(t *testing.T) {
	d := dice(2)
	for _, n := range []int{1, 2, 3, 8, 40, 1000} {
		for range 30 {
			p, cs := d.vector(n)
			q, ds := d.vector(n)
			k := d.rat()
			v, w, by := of(t, cs...), of(t, ds...), get(t, k.RatString())
			what := fmt.Sprint(v.Coefs(), " and ", k.RatString(), " times ", w.Coefs())
			same(t, what, v.Add(by, w), p.add(k, q))
			same(t, "twice, "+what, v.Add(by, v), p.add(k, p))
			for _, dot := range []*frac.Frac{v.Dot(w), w.Dot(v)} {
				if want := p.dot(q).RatString(); dot == nil || dot.Text() != want {
					t.Errorf("P5.1: Dot, %.120s, is %s, not %s", what, dot.Text(), want)
				}
			}
			if v.Dot(v).Text() != p.dot(p).RatString() {
				t.Errorf("P5.1: Dot of %.120v and itself is %s", v.Coefs(), v.Dot(v).Text())
			}
			// Nothing that was made before has changed by it.
			same(t, "left behind Add", v, p)
			same(t, "right behind Add", w, q)
		}
	}
}

// All pairs of vectors of three columns, so each way of meeting comes.
func TestAddAndDotOfAllMeetings(t *testing.T) {
	few := []string{"0", "1", "-1", "1/2"}
	var ps []plain
	var vs []*vec.Vec
	for n := range len(few) * len(few) * len(few) {
		p, cs := plain{}, []api.Coef{}
		for i, col := range []int{0, 5, 999} {
			s := few[n>>(2*i)&3]
			p[col], _ = new(big.Rat).SetString(s)
			cs = append(cs, api.Coef{Col: col, V: s})
		}
		ps, vs = append(ps, p), append(vs, of(t, cs...))
	}
	for i, v := range vs {
		for k, w := range vs {
			for _, by := range []string{"0", "1", "-1", "-2", "3/7"} {
				factor, _ := new(big.Rat).SetString(by)
				sum, want := v.Add(get(t, by), w), ps[i].add(factor, ps[k]).coefs()
				if !slices.Equal(sum.Coefs(), want) || sum.Len() != len(want) {
					t.Errorf("P5.1: %v and %s times %v is %v", v.Coefs(), by, w.Coefs(), sum.Coefs())
				}
			}
			if v.Dot(w).Text() != ps[i].dot(ps[k]).RatString() {
				t.Errorf("P5.1: Dot of %v and %v is %s", v.Coefs(), w.Coefs(), v.Dot(w).Text())
			}
		}
	}
}

// What comes to 0 is nowhere any more, in sums of sums neither.
func TestAddToNothing(t *testing.T) {
	v := of(t, api.Coef{Col: 1, V: "2/3"}, api.Coef{Col: 2, V: "-18446744073709551617"}, api.Coef{Col: 998, V: "1/18446744073709551616"})
	gone := v.Add(frac.Of(-1), v)
	if gone == nil || gone.Len() != 0 || len(gone.Coefs()) != 0 || gone.At(2).Sign() != 0 {
		t.Errorf("P5.1: less itself it is %v", gone.Coefs())
	}
	some := v.Add(frac.Of(-2), of(t, api.Coef{Col: 1, V: "1/3"}, api.Coef{Col: 3, V: "5"}))
	if got, want := some.Add(frac.Of(-1), v).Coefs(), "[{1 -2/3} {3 -10}]"; fmt.Sprint(got) != want {
		t.Errorf("P5.1: the sum of sums is %v", got)
	}
	if got := gone.Add(frac.Of(3), v).At(1).Text(); got != "2" {
		t.Errorf("P5.1: 3 times to nothing is %s", got)
	}
}

func TestNilIsOfNothing(t *testing.T) {
	cs := []api.Coef{{Col: 0, V: "-4"}, {Col: 6, V: "1/3"}}
	v := of(t, cs...)
	for k, none := range []*vec.Vec{nil, new(vec.Vec), of(t)} {
		if none.Len() != 0 || len(none.Coefs()) != 0 || none.At(0).Text() != "0" {
			t.Errorf("P5.1, %d: a vector of nothing has something", k)
		}
		for _, dot := range []*frac.Frac{none.Dot(v), v.Dot(none), none.Dot(none), none.Dot(nil)} {
			if dot == nil || dot.Text() != "0" {
				t.Errorf("P5.1, %d: Dot with nothing is %s", k, dot.Text())
			}
		}
		for _, by := range []*frac.Frac{nil, new(frac.Frac), frac.Of(0), frac.Of(3), frac.Of(-1)} {
			if got := v.Add(by, none); got == nil || !slices.Equal(got.Coefs(), cs) {
				t.Errorf("P5.1, %d: with %s times nothing it is %v", k, by.Text(), got.Coefs())
			}
			if got := none.Add(by, none); got == nil || got.Len() != 0 {
				t.Errorf("P5.1, %d: nothing and %s times nothing is %v", k, by.Text(), got.Coefs())
			}
			want := plain{0: big.NewRat(-4, 1), 6: big.NewRat(1, 3)}
			times, _ := new(big.Rat).SetString(by.Text())
			same(t, "nothing and "+by.Text()+" times it", none.Add(by, v), plain{}.add(times, want))
			same(t, "it and "+by.Text()+" times it", v.Add(by, v), want.add(times, want))
		}
	}
}

func TestListsAreNeitherChangedNorKept(t *testing.T) {
	room := []api.Coef{{Col: 9, V: "1"}, {Col: 3, V: "0"}, {Col: 4, V: "-2"}, {Col: 77, V: "spare"}, {Col: 1, V: "room"}}
	before := slices.Clone(room)
	v := of(t, room[:3]...)
	if !slices.Equal(room, before) {
		t.Errorf("P0.3: New made %v of its list", room)
	}
	clear(room)
	if got := fmt.Sprint(v.Coefs()); got != "[{4 -2} {9 1}]" {
		t.Errorf("P0.3: with its list New's answer changed to %s", got)
	}
	for _, bad := range [][]api.Coef{{{Col: 9, V: "1"}, {Col: 4, V: "x"}}, {{Col: 9, V: "1"}, {Col: 4, V: "2"}, {Col: 9, V: "3"}}} {
		kept := slices.Clone(bad)
		if nothing(t, bad); !slices.Equal(bad, kept) {
			t.Errorf("P0.3: New made %v of its list", bad)
		}
	}
}

func TestFractionsAreNotKept(t *testing.T) {
	v, k := of(t, api.Coef{Col: 2, V: "3"}), get(t, "1/2")
	sum := v.Add(k, v)
	*k = *frac.Of(9)
	if got := sum.At(2).Text(); got != "9/2" {
		t.Errorf("P0.3: with its factor a sum changed to %s", got)
	}
	if v.Add(k, v); k.Text() != "9" {
		t.Errorf("P0.3: Add made %s of its factor", k.Text())
	}
}

// write writes into all that a vector tells, spare room too.
func write(v *vec.Vec) {
	for i := -1; i < 1001; i++ {
		*v.At(i) = *frac.Of(77)
	}
	cs := v.Coefs()
	cs = cs[:cap(cs)]
	for k := range cs {
		cs[k] = api.Coef{Col: k + 500, V: "77"}
	}
	*v.Dot(v) = *frac.Of(77)
}

func TestAnswersAreNewMemory(t *testing.T) {
	cs := []api.Coef{{Col: 1, V: "5"}, {Col: 2, V: "18446744073709551617/2"}, {Col: 3, V: "-1"}}
	p := plain{}
	for _, c := range cs {
		p[c.Col], _ = new(big.Rat).SetString(c.V)
	}
	other, half := of(t, api.Coef{Col: 2, V: "1"}, api.Coef{Col: 4, V: "1"}), big.NewRat(1, 2)
	q := plain{2: big.NewRat(1, 1), 4: big.NewRat(1, 1)}
	by := get(t, "1/2")
	v := of(t, cs...)
	made := []*vec.Vec{v, of(t, cs...), v.Add(by, other), v.Add(by, nil), v.Add(nil, other), v.Add(by, of(t)), new(vec.Vec).Add(frac.Of(1), v)}
	want := []plain{p, p, p.add(half, q), p, p, p, p}
	for _, w := range made {
		write(w)
	}
	for k, w := range made {
		same(t, "vector "+strconv.Itoa(k), w, want[k])
	}
	// To write over one is to change no other.
	for k, w := range made {
		*w = vec.Vec{}
		for i := k + 1; i < len(made); i++ {
			same(t, "vector "+strconv.Itoa(i)+" behind "+strconv.Itoa(k), made[i], want[i])
		}
	}
	same(t, "the other", other, q)
}

// 0 where there is nothing is new each time, too.
func TestNoughtsAreNewMemory(t *testing.T) {
	var none *vec.Vec
	for _, v := range []*vec.Vec{none, of(t), of(t, api.Coef{Col: 4, V: "1"})} {
		for range 2 {
			x, y := v.At(3), v.Dot(none)
			if x.Text() != "0" || y.Text() != "0" {
				t.Fatalf("P0.3: 0 was written over: %s, %s", x.Text(), y.Text())
			}
			*x, *y = *frac.Of(1), *frac.Of(1)
		}
	}
}

func TestTheSameEachTime(t *testing.T) {
	d := dice(9)
	_, cs := d.vector(60)
	_, ds := d.vector(60)
	v, w := of(t, cs...), of(t, ds...)
	first, dot := fmt.Sprint(v.Add(frac.Of(3), w).Coefs()), v.Dot(w).Text()
	for range 20 {
		again, other := of(t, cs...), of(t, ds...)
		if fmt.Sprint(again.Add(frac.Of(3), other).Coefs()) != first || again.Dot(other).Text() != dot || v.Dot(w).Text() != dot {
			t.Fatal("P0.5: the same arguments have other answers")
		}
	}
}

func FuzzNew(f *testing.F) {
	f.Add(0, "1", 999, "1/2")
	f.Add(-1, "1", 1000, "0")
	f.Add(4, "0", 4, "0")
	f.Fuzz(func(t *testing.T, i int, a string, k int, b string) {
		x, okA := frac.Get(a)
		y, okB := frac.Get(b)
		want := okA && okB && i >= 0 && i <= 999 && k >= 0 && k <= 999 && i != k
		v, ok := vec.New(api.Coef{Col: i, V: a}, api.Coef{Col: k, V: b})
		if ok != want || ok != (v != nil) {
			t.Fatalf("P5.1: New of %d, %q, %d, %q is %v", i, a, k, b, ok)
		}
		if ok && (v.At(i).Cmp(x) != 0 || v.At(k).Cmp(y) != 0) {
			t.Fatalf("P5.1: New of %d, %q, %d, %q has others", i, a, k, b)
		}
	})
}
