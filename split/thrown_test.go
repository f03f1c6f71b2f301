package split_test

import (
	"fmt"
	"math/big"
	"slices"
	"strings"
	"testing"

	"victualler/api"
	"victualler/core"
	"victualler/period"
	"victualler/split"
)

// dice throws numbers that are the same in every run.
type dice uint64

func (d *dice) below(n int) int {
	*d = *d*6364136223846793005 + 1442695040888963407
	return int(*d>>33) % n
}

func (d *dice) of(texts ...string) string { return texts[d.below(len(texts))] }

// number throws small ones, most of them whole.
func (d *dice) number() string {
	return big.NewRat(int64(d.below(9)-4), int64(1+d.below(3)/2)).RatString()
}

// rarely is true of one throw of so many.
func (d *dice) rarely(n int) bool { return d.below(n) == 0 }

// core throws a core whose second stage begins at a column and a row, now and
// then with something wrong.
func (d *dice) core() (api.Core, []api.Period) {
	most := []int{3, 3, 3, 24}[d.below(4)]
	firstCols, firstRows := 1+d.below(most), d.below(most)
	c := api.Core{Name: "T", Obj: "cost"}
	for k := range min(40, firstCols+1+d.below(most)) {
		c.Cols = append(c.Cols, d.col(fmt.Sprint("x", k), k < firstCols))
	}
	for k := range min(40, firstRows+1+d.below(most)) {
		row := api.Row{Name: fmt.Sprint("r", k), Kind: 1 + d.below(3), Rhs: d.number()}
		if d.rarely(3) {
			row.Range = d.number()
		}
		for col := range c.Cols {
			v := d.number()
			if (k >= firstRows || col < firstCols || d.rarely(2000)) && d.rarely(2) && v != "0" {
				row.Coef = append(row.Coef, api.Coef{Col: col, V: v})
			}
		}
		c.Rows = append(c.Rows, row)
	}
	ps := []api.Period{{Col: "x0", Row: d.of("cost", "cost", "r0"), Name: "now"}, {Col: fmt.Sprint("x", firstCols), Row: fmt.Sprint("r", firstRows), Name: "then"}}
	d.spoil(&c, ps)
	return c, ps
}

func (d *dice) col(name string, first bool) api.Col {
	x := api.Col{Name: name, Low: d.number(), Up: d.of("5", "9/2", "10"), Cost: d.number(), Int: first && d.rarely(3) || d.rarely(150)}
	if d.rarely(150) {
		x.Up = d.number()
	}
	if !first && d.rarely(3) || d.rarely(150) {
		x.Low = ""
	}
	if !first && d.rarely(3) || d.rarely(150) {
		x.Up = ""
	}
	return x
}

// spoil writes, now and then, what core.May or period.May refuses.
func (d *dice) spoil(c *api.Core, ps []api.Period) {
	switch d.below(40) {
	case 0:
		c.Cols[d.below(len(c.Cols))].Name = d.of("x0", "x1", "RHS", "", "x9")
	case 1:
		c.Rows[d.below(len(c.Rows))].Name = d.of("r0", "r1", "cost", "", "r9")
	case 2:
		c.Rows[d.below(len(c.Rows))].Kind = d.below(6)
	case 3:
		c.Rows[d.below(len(c.Rows))].Rhs = d.of("", "x", "2/4", "1")
	case 4:
		ps[d.below(2)].Col = d.of("x0", "x1", "x2", "q")
	case 5:
		ps[d.below(2)].Row = d.of("r0", "r1", "r2", "cost", "q")
	}
}

func rat(text string) *big.Rat {
	x, ok := new(big.Rat).SetString(text)
	if !ok {
		panic("the test is wrong: " + text)
	}
	return x
}

// narrow is a row with bounds on both sides: nil is none.
type narrow struct {
	name    string
	low, up *big.Rat
	at      map[string]string // numbers by columns' names
}

func narrowOf(c api.Core, row api.Row) narrow {
	n := narrow{name: row.Name, at: map[string]string{}}
	for _, x := range row.Coef {
		n.at[c.Cols[x.Col].Name] = x.V
	}
	if row.Kind != api.RLess {
		n.low = rat(row.Rhs)
	}
	if row.Kind != api.RMore {
		n.up = rat(row.Rhs)
	}
	if row.Range == "" {
		return n
	}
	span := rat(row.Range)
	size := new(big.Rat).Abs(span)
	switch {
	case row.Kind == api.RLess:
		n.low = new(big.Rat).Sub(n.up, size)
	case row.Kind == api.RMore:
		n.up = new(big.Rat).Add(n.low, size)
	case span.Sign() < 0:
		n.low = new(big.Rat).Sub(n.up, size)
	default:
		n.up = new(big.Rat).Add(n.low, size)
	}
	return n
}

// parted is what the chapter asks of a core by its columns' and rows' names.
type parted struct {
	c             api.Core
	first, second []string // columns' names
	ahead, behind []api.Row
}

func partedOf(c api.Core, ps []api.Period) parted {
	p := parted{c: c}
	later := false
	for _, col := range c.Cols {
		if later = later || col.Name == ps[1].Col; later {
			p.second = append(p.second, col.Name)
		} else {
			p.first = append(p.first, col.Name)
		}
	}
	later = false
	for _, row := range c.Rows {
		if later = later || row.Name == ps[1].Row; later {
			p.behind = append(p.behind, row)
		} else {
			p.ahead = append(p.ahead, row)
		}
	}
	return p
}

// lines is how many rows a stage has.
func lines(rows []api.Row) (count int) {
	for _, row := range rows {
		count += 1 + min(1, len(row.Range))
	}
	return count
}

// asked is the error that the chapter asks.
func asked(c api.Core, ps []api.Period) api.Errno {
	if e := core.May(c); e != api.OK {
		return e
	}
	if e := period.May(c, ps); e != api.OK {
		return e
	}
	p, found := partedOf(c, ps), map[api.Errno]bool{}
	for _, row := range p.ahead {
		for name := range narrowOf(c, row).at {
			found[api.ErrOrder] = found[api.ErrOrder] || slices.Contains(p.second, name)
		}
	}
	for _, col := range c.Cols {
		bound, second := col.Low != "" && col.Up != "", slices.Contains(p.second, col.Name)
		found[api.ErrKind] = found[api.ErrKind] || col.Int && second
		found[api.ErrBound] = found[api.ErrBound] || !bound && !second || bound && rat(col.Low).Cmp(rat(col.Up)) > 0
	}
	found[api.ErrLimit] = len(p.first) > 20 || len(p.second) > 20 || lines(p.ahead) > 20 || lines(p.behind) > 20
	for _, e := range []api.Errno{api.ErrOrder, api.ErrKind, api.ErrBound, api.ErrLimit} {
		if found[e] {
			return e
		}
	}
	return api.OK
}

// rowsOf writes down, one a line, the rows of a stage as the chapter asks them.
func rowsOf(c api.Core, rows []api.Row, first, second []string) string {
	text := func(at map[string]string, names []string) string {
		all := ""
		for k, name := range names {
			if v, ok := at[name]; ok {
				all += fmt.Sprint(" ", k, ":", v)
			}
		}
		return all
	}
	all := ""
	for _, row := range rows {
		n := narrowOf(c, row)
		tail := text(n.at, second) + " |" + text(n.at, first) + "\n"
		less, more := "", ""
		if n.up != nil {
			less = row.Name + " <= " + n.up.RatString() + tail
		}
		if n.low != nil {
			more = row.Name + " >= " + n.low.RatString() + tail
		}
		switch {
		case row.Range == "" && row.Kind == api.REqual:
			all += row.Name + " = " + row.Rhs + tail
		case row.Kind == api.RLess:
			all += less + more
		default:
			all += more + less
		}
	}
	return all
}

// write is the same of an answer.
func write(rows []api.Row, tech [][]api.Coef) string {
	text := func(cs []api.Coef) string {
		all := ""
		for _, x := range cs {
			all += fmt.Sprint(" ", x.Col, ":", x.V)
		}
		return all
	}
	all := ""
	for k, row := range rows {
		all += row.Name + []string{"", " <= ", " = ", " >= "}[row.Kind] + row.Rhs + row.Range + text(row.Coef) + " |"
		if tech != nil {
			all += text(tech[k])
		}
		all += "\n"
	}
	return all
}

func names(cols []api.Col) (all []string) {
	for _, col := range cols {
		all = append(all, col.Name)
	}
	return all
}

func TestOfThrownCores(t *testing.T) {
	d := dice(12)
	count := map[api.Errno]int{}
	for range 20000 {
		c, ps := d.core()
		want := asked(c, ps)
		count[want]++
		two, e := split.Of(c, ps)
		if e != want {
			t.Fatalf("P12.1: Of of %v, %v: error %d, not %d", c, ps, e, want)
		}
		if e != api.OK {
			refuses(t, "a thrown core", c, ps, e)
			continue
		}
		p := partedOf(c, ps)
		if got, want := write(two.First.Rows, nil), rowsOf(c, p.ahead, nil, p.first); got != want {
			t.Fatalf("P12.1: Of of %v, %v has the first rows %s, not %s", c, ps, got, want)
		}
		if got, want := write(two.Second.Rows, two.Tech), rowsOf(c, p.behind, p.first, p.second); got != want || len(two.Tech) != len(two.Second.Rows) {
			t.Fatalf("P12.1: Of of %v, %v has the second rows %s, not %s", c, ps, got, want)
		}
		if !slices.Equal(append(slices.Clip(two.First.Cols), two.Second.Cols...), c.Cols) || !slices.Equal(names(two.First.Cols), p.first) {
			t.Fatalf("P12.1: Of of %v, %v has the columns %v, %v", c, ps, two.First.Cols, two.Second.Cols)
		}
		d.holds(t, c, two)
	}
	for _, e := range []api.Errno{api.OK, api.ErrForm, api.ErrName, api.ErrOrder, api.ErrLimit, api.ErrKind, api.ErrBound} {
		if count[e] < 150 {
			t.Errorf("the test is wrong: error %d comes %d times", e, count[e])
		}
	}
}

// sum is of Coefs by numbers.
func sum(cs []api.Coef, x []*big.Rat) *big.Rat {
	total := new(big.Rat)
	for _, c := range cs {
		total.Add(total, new(big.Rat).Mul(rat(c.V), x[c.Col]))
	}
	return total
}

// fits tells whether a row of an answer takes a sum.
func fits(row api.Row, total *big.Rat) bool {
	order := total.Cmp(rat(row.Rhs))
	return order == 0 || order < 0 && row.Kind == api.RLess || order > 0 && row.Kind == api.RMore
}

// holds throws numbers for all columns: of each row of the core it is the same
// whether its sum lies between its sides, and whether those rows of Two that have
// its name hold.
func (d *dice) holds(t *testing.T, c api.Core, two api.Two) {
	t.Helper()
	var x []*big.Rat
	for range c.Cols {
		x = append(x, rat(d.number()))
	}
	first, second := x[:len(two.First.Cols)], x[len(two.First.Cols):]
	held := map[string]bool{}
	for _, row := range c.Rows {
		held[row.Name] = true
	}
	for _, row := range two.First.Rows {
		held[row.Name] = held[row.Name] && fits(row, sum(row.Coef, first))
	}
	for k, row := range two.Second.Rows {
		total := sum(row.Coef, second)
		held[row.Name] = held[row.Name] && fits(row, total.Add(total, sum(two.Tech[k], first)))
	}
	for _, row := range c.Rows {
		n, total := narrowOf(c, row), sum(row.Coef, x)
		if want := (n.low == nil || n.low.Cmp(total) <= 0) && (n.up == nil || n.up.Cmp(total) >= 0); held[row.Name] != want {
			t.Fatalf("P12.1: Of of %v: row %s holds at %v: %v", c, row.Name, x, held[row.Name])
		}
	}
}

// askedPlace is what the chapter asks of a place, by names.
func askedPlace(c api.Core, ps []api.Period, where api.Place) spot {
	p := partedOf(c, ps)
	isRow := func(r api.Row) bool { return r.Name == where.Row }
	first, second := slices.Index(p.first, where.Col), slices.Index(p.second, where.Col)
	behind, cost := slices.IndexFunc(p.behind, isRow), where.Row == c.Obj
	switch {
	case !cost && !slices.ContainsFunc(c.Rows, isRow), where.Col != "" && first < 0 && second < 0:
		return spot{e: api.ErrName}
	case slices.ContainsFunc(p.ahead, isRow), cost && first >= 0:
		return spot{e: api.ErrOrder}
	case cost && where.Col == "", !cost && p.behind[behind].Range != "":
		return spot{e: api.ErrKind}
	case cost:
		return spot{kind: 2, col: second}
	}
	row := lines(p.behind[:behind])
	switch {
	case where.Col == "":
		return spot{kind: 1, row: row}
	case first >= 0:
		return spot{kind: 3, row: row, col: first}
	}
	return spot{kind: 4, row: row, col: second}
}

func TestPlaceOfThrownCores(t *testing.T) {
	d := dice(21)
	count := map[string]int{}
	for range 8000 {
		c, ps := d.core()
		e := core.May(c)
		if e == api.OK {
			e = period.May(c, ps)
		}
		what := fmt.Sprint(c, ps)
		for range 12 {
			where := api.Place{Col: d.of("", "x0", "x1", "x2", "x3", "x4", "x10", "x23", "q"), Row: d.of("cost", "r0", "r1", "r2", "r3", "r4", "r10", "r23", "q")}
			want := spot{e: e}
			if e == api.OK {
				want = askedPlace(c, ps, where)
			}
			count[fmt.Sprint(want.kind, want.e)]++
			lies(t, what, c, ps, where, want)
			if want.e == api.OK && asked(c, ps) == api.OK && d.rarely(10) {
				agrees(t, c, ps, where)
			}
		}
	}
	for _, kind := range []string{"1 0", "2 0", "3 0", "4 0", "0 1", "0 4", "0 5", "0 7"} {
		if count[kind] < 500 {
			t.Errorf("the test is wrong: kind and error %s come %d times", kind, count[kind])
		}
	}
}

// Any words: both calls answer, and by the sentences.
func FuzzSplit(f *testing.F) {
	for _, text := range []string{"x", "need", "", "1", "-1", "9/2", "2/4", "cost", "RHS", long, strings.Repeat("9", 2001)} {
		f.Add(text, text, text, text, text, 0, 1, false)
		f.Add("x", "need", text, text, "5", 3, 2, true)
		f.Add("y", text, "5", "-3", text, 2, 3, false)
		f.Add(text, "link", "0", text, "", 4, 2, false)
	}
	f.Fuzz(func(t *testing.T, col, row, v, span, up string, i, kind int, whole bool) {
		c, ps := good(), at(col, row)
		c.Rows[1].Range, c.Rows[1].Kind = span, kind
		c.Rows[2].Coef, c.Rows[2].Rhs = []api.Coef{{Col: i, V: v}}, v
		c.Cols[3].Low, c.Cols[3].Up, c.Cols[3].Int = v, up, whole
		want := asked(c, ps)
		answers(t, "any words", c, ps, want)
		if want == api.OK {
			two, _ := split.Of(c, ps)
			p := partedOf(c, ps)
			if write(two.First.Rows, nil) != rowsOf(c, p.ahead, nil, p.first) || write(two.Second.Rows, two.Tech) != rowsOf(c, p.behind, p.first, p.second) {
				t.Errorf("P12.1: Of of %v, %v: %v", c, ps, two)
			}
		}
		for _, where := range []api.Place{{Col: col, Row: row}, {Col: v, Row: span}, {Row: row}, {Col: col, Row: "cost"}, {Col: up, Row: v}} {
			e := core.May(c)
			if e == api.OK {
				e = period.May(c, ps)
			}
			if e != api.OK {
				nowhere(t, "any words", c, ps, where, e)
			} else {
				lies(t, "any words", c, ps, where, askedPlace(c, ps, where))
			}
		}
	})
}
