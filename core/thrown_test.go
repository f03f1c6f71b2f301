package core_test

import (
	"fmt"
	"maps"
	"math/big"
	"reflect"
	"slices"
	"strings"
	"testing"

	"victualler/api"
	"victualler/core"
)

// dice throws numbers that are the same in every run.
type dice uint64

func (d *dice) below(n int) int {
	*d = *d*6364136223846793005 + 1442695040888963407
	return int(*d>>33) % n
}

func (d *dice) often() bool { return d.below(4) > 0 }

func (d *dice) of(texts ...string) string { return texts[d.below(len(texts))] }

// number throws a literal, and how its value is told.
func (d *dice) number() (literal, text string) {
	digits := fmt.Sprint(d.below(1000) * d.below(2000))
	at := d.below(len(digits) + 1)
	switch d.below(4) {
	case 0:
		literal = digits
	case 1:
		literal = digits[:at] + "." + digits[at:]
	case 2:
		literal = digits[:at] + "." + digits[at:] + d.of("e", "E") + d.of("", "+", "-") + d.of("0", "3", "07", "012")
	default:
		x := big.NewRat(int64(d.below(50)-25), int64(d.below(30)+1))
		return x.RatString(), x.RatString()
	}
	literal = d.of("", "+", "-") + literal
	x, _ := new(big.Rat).SetString(literal)
	return literal, x.RatString()
}

// writer throws a file together with the core that it tells.
type writer struct {
	dice
	core   api.Core
	lines  []string
	starts map[string]int // lines behind each Head
}

func (w *writer) add(words ...string) { w.lines = append(w.lines, " "+strings.Join(words, " ")) }

func (w *writer) head(words ...string) {
	w.lines = append(w.lines, strings.Join(words, " "))
	w.starts[words[0]] = len(w.lines)
}

func (w *writer) shuffle(l []int) []int {
	for k := range l {
		i := w.below(k + 1)
		l[k], l[i] = l[i], l[k]
	}
	return l
}

func (w *writer) rows() {
	w.head("ROWS")
	many := w.below(7)
	if w.below(20) == 0 {
		many = 40
	}
	obj := w.below(many + 1)
	for k := range many + 1 {
		if k == obj {
			w.core.Obj = w.of("cost", "obj", "RHS", "x0")
			w.add("N", w.core.Obj)
		}
		if k < many {
			kind := w.below(3)
			w.core.Rows = append(w.core.Rows, api.Row{Name: fmt.Sprint("r", k), Kind: []int{api.RLess, api.REqual, api.RMore}[kind], Rhs: "0"})
			w.add([]string{"L", "E", "G"}[kind], fmt.Sprint("r", k))
		}
	}
}

// pairs writes pairs for some rows, in any order, in lines of one or two; put is
// told of each; between two lines there may be others.
func (w *writer) pairs(first string, rows []int, put func(row int, text string), between func()) {
	for len(rows) > 0 {
		words := []string{first}
		for _, row := range rows[:min(len(rows), 1+w.below(2))] {
			literal, text := w.number()
			name := w.core.Obj
			if row >= 0 {
				name = w.core.Rows[row].Name
			}
			words = append(words, name, literal)
			put(row, text)
		}
		w.add(words...)
		rows = rows[len(words)/2:]
		if len(rows) > 0 {
			between()
		}
	}
}

// some throws some rows, -1 for Obj if so asked.
func (w *writer) some(obj bool) []int {
	var rows []int
	if obj {
		rows = append(rows, -1)
	}
	for k := range w.core.Rows {
		if w.below(3) > 0 && (len(rows) < 8 || w.below(6) == 0) {
			rows = append(rows, k)
		}
	}
	return w.shuffle(rows)
}

func (w *writer) columns() {
	w.head("COLUMNS")
	many := w.below(7)
	if w.below(20) == 0 {
		many = 40
	}
	whole := false
	mark := func() {
		if w.below(3) == 0 {
			whole = !whole
			w.add(w.of("M", "MARKER", "x0", "'MARKER'"), "'MARKER'", map[bool]string{true: "'INTORG'", false: "'INTEND'"}[whole])
		}
	}
	for k := range many {
		mark()
		rows := w.some(w.often())
		if len(rows) == 0 {
			rows = []int{-1}
		}
		w.core.Cols = append(w.core.Cols, api.Col{Name: fmt.Sprint("x", k), Low: "0", Cost: "0", Int: whole})
		w.pairs(fmt.Sprint("x", k), rows, func(row int, text string) {
			if row < 0 {
				w.core.Cols[k].Cost = text
			} else if text != "0" {
				w.core.Rows[row].Coef = append(w.core.Rows[row].Coef, api.Coef{Col: k, V: text})
			}
		}, mark)
	}
	mark()
}

func (w *writer) sides() {
	w.head("RHS")
	set := w.of("R", "RHS", "set", "x0")
	w.pairs(set, w.some(false), func(row int, text string) { w.core.Rows[row].Rhs = text }, func() { set = w.of(set, "other") })
	if w.often() {
		w.head("RANGES")
		w.pairs(set, w.some(false), func(row int, text string) { w.core.Rows[row].Range = text }, func() {})
	}
}

func (w *writer) bounds() {
	w.head("BOUNDS")
	if len(w.core.Cols) == 0 {
		return
	}
	for range w.below(25) {
		col := &w.core.Cols[w.below(len(w.core.Cols))]
		effects := withoutValue()
		if w.often() {
			effects = withValue()
		}
		e := effects[w.below(len(effects))]
		words, text := []string{e.kind, w.of("B", "BND", "x0"), col.Name}, ""
		if e.low == value || e.up == value {
			literal, number := w.number()
			words, text = append(words, literal), number
			if w.below(5) == 0 && e.kind == "UP" {
				words[3], text = w.of("inf", "Inf", "+inf", "1e30"), ""
			}
		}
		w.add(words...)
		col.Low, col.Up, col.Int = laid(col.Low, e.low, text), laid(col.Up, e.up, text), col.Int || e.int
	}
}

func (w *writer) file() {
	w.starts = map[string]int{}
	w.core.Name = w.of("T", "a-name", "NAME")
	w.head("NAME", w.core.Name)
	w.rows()
	w.columns()
	w.sides()
	if w.often() {
		w.bounds()
	}
	w.head("ENDATA")
}

// loose tells the lines with other blanks, and with comments and empty lines.
func (w *writer) loose() (text string, places []int) {
	var made strings.Builder
	no := 1
	for _, line := range w.lines {
		for w.below(12) == 0 {
			made.WriteString(w.of("\n", "* a comment\n", "*\n", " \t\n", "\r\n", "*ENDATA\r\n"))
			no++
		}
		places = append(places, no)
		made.WriteString(strings.ReplaceAll(line, " ", w.of(" ", "\t", "   ", " \t")) + w.of("", "", " ", "\t") + w.of("\n", "\n", "\r\n"))
		no++
	}
	return made.String(), places
}

func TestGetOfThrownFiles(t *testing.T) {
	for seed := range 3000 {
		w := writer{dice: dice(seed)}
		w.file()
		for range 2 {
			text, _ := w.loose()
			c, line, e := core.Get(text)
			if e != api.OK || line != 0 || !same(c, w.core) {
				t.Fatalf("P8.2: Get of\n%s\nis line %d, error %d\n%v, not\n%v", text, line, e, c, w.core)
			}
			if may := core.May(c); may != api.OK {
				t.Fatalf("P8.1: May of what Get answered of\n%s\nis %d", text, may)
			}
			if !core.Eq(c, w.core) || !core.Eq(w.core, c) {
				t.Fatalf("P8.1: Eq of what Get answered of\n%s\nis false", text)
			}
		}
	}
}

// wrongLines tells lines that may stand nowhere in a section of a thrown file.
func wrongLines() map[string]map[string]api.Errno {
	return map[string]map[string]api.Errno{
		"NAME":    {"NAME T": api.ErrOrder, " x": api.ErrOrder, "COLUMNS": api.ErrOrder, "ENDATA": api.ErrOrder, "z": api.ErrOrder},
		"ROWS":    {" Q z": api.ErrForm, " L": api.ErrForm, " L z z": api.ErrForm, " L 'MARKER'": api.ErrName, " G " + long: api.ErrName, "RHS": api.ErrOrder, "ROWS": api.ErrOrder, "L z": api.ErrOrder, "COLUMNS z": api.ErrForm},
		"COLUMNS": {" z": api.ErrForm, " z cost": api.ErrForm, " z r0 1 r1": api.ErrForm, " RHS r0 1": api.ErrName, " " + long + " r0 x": api.ErrName, " M 'MARKER' z": api.ErrForm, "BOUNDS": api.ErrOrder, "COLUMNS": api.ErrOrder, "RHS z": api.ErrForm},
		"RHS":     {" z": api.ErrForm, " R r0 1 r1": api.ErrForm, " R q 1": api.ErrName, " " + long + " r0 1": api.ErrName, "COLUMNS": api.ErrOrder, "RHS": api.ErrOrder, "ENDATA z": api.ErrForm, "BOUNDS z z": api.ErrForm},
		"RANGES":  {" z": api.ErrForm, " R r0 1 r1": api.ErrForm, " R q 1": api.ErrName, " " + long + " r0 1": api.ErrName, "RANGES": api.ErrOrder, "RHS": api.ErrOrder, "BOUNDS z": api.ErrForm},
		"BOUNDS":  {" UP B x0": api.ErrForm, " ZZ B x0 1": api.ErrForm, " FR B q": api.ErrName, " UP B q 1": api.ErrName, " FR B x0 1": api.ErrForm, "RANGES": api.ErrOrder, "BOUNDS": api.ErrOrder, "ENDATA z": api.ErrForm},
	}
}

func TestGetOfThrownFilesWithAWrongLine(t *testing.T) {
	for seed := range 300 {
		w := writer{dice: dice(seed + 1<<20)}
		w.file()
		whole := w.lines
		for _, section := range slices.Sorted(maps.Keys(wrongLines())) {
			start, there := w.starts[section]
			if !there {
				continue
			}
			more := slices.IndexFunc(whole[start:], func(line string) bool { return line[0] != ' ' })
			wrongs := wrongLines()[section]
			for _, line := range slices.Sorted(maps.Keys(wrongs)) {
				e := wrongs[line]
				at := start + w.below(more+1)
				w.lines = slices.Insert(slices.Clone(whole), at, line)
				text, places := w.loose()
				if c, no, got := core.Get(text); got != e || no != places[at] || !reflect.DeepEqual(c, api.Core{}) {
					t.Fatalf("P8.2: Get of\n%s\nis line %d, error %d, not %d, %d", text, no, got, places[at], e)
				}
			}
		}
	}
}

// soup throws lines of words that may stand in files, in any order.
func (d *dice) soup() string {
	lines := strings.SplitAfter(inBounds+" UP B x 1\nENDATA\n", "\n")
	for range d.below(4) {
		line := d.of(" ", " ", " ", "")
		for range d.below(6) {
			line += d.of("NAME", "ROWS", "COLUMNS", "RHS", "RANGES", "BOUNDS", "ENDATA", "N", "L", "E", "G", "c", "r", "s", "t", "x", "y", "z", "1", "2.5", "-3", "0", "inf", "-1e30", "'MARKER'", "'INTORG'", "'INTEND'", "UP", "LO", "FX", "LI", "UI", "FR", "MI", "PL", "BV", "R", "*", long, "/") + d.of(" ", "\t")
		}
		at := d.below(len(lines))
		switch d.below(4) {
		case 0:
			lines = slices.Delete(lines, at, min(at+1, len(lines)))
		case 1:
			other := d.below(len(lines))
			lines[at], lines[other] = lines[other], lines[at]
		case 2:
			lines = slices.Insert(lines, at, line+"\n")
		default:
			lines = slices.Insert(lines, at, lines[d.below(len(lines))])
		}
	}
	return strings.Join(lines, "")
}

// Get goes line by line: what stands behind the first error's line, or behind
// ENDATA, tells nothing, and what stands ahead of it has no error.
func TestGetGoesLineByLine(t *testing.T) {
	d := dice(8)
	found := map[api.Errno]int{}
	for range 20000 {
		text := d.soup()
		c, no, e := core.Get(text)
		found[e]++
		if again, no2, e2 := core.Get(text); no2 != no || e2 != e || !reflect.DeepEqual(again, c) {
			t.Fatalf("P0.5: Get of\n%s\nanswers otherwise when asked again", text)
		}
		if e == api.OK && (no != 0 || core.May(c) != api.OK || !core.Eq(c, c)) || e != api.OK && !reflect.DeepEqual(c, api.Core{}) {
			t.Fatalf("P8.2: Get of\n%s\nis line %d, error %d, %v", text, no, e, c)
		}
		lines := strings.SplitAfter(text, "\n")
		if e == api.OK || no == 0 {
			continue
		}
		if _, no2, e2 := core.Get(strings.Join(lines[:no], "") + d.soup()); no2 != no || e2 != e {
			t.Fatalf("P8.2: Get of\n%s\nis line %d, error %d, and otherwise with other lines behind: %d, %d", text, no, e, no2, e2)
		}
		if _, no2, e2 := core.Get(strings.Join(lines[:no-1], "")); no2 != 0 || e2 != api.ErrOrder {
			t.Fatalf("P8.2: Get of\n%s\nis line %d, error %d, and cut ahead of it %d, %d", text, no, e, no2, e2)
		}
	}
	for _, e := range []api.Errno{api.OK, api.ErrForm, api.ErrName, api.ErrOrder, api.ErrKind} {
		if found[e] < 50 {
			t.Errorf("the test is wrong: error %d came %d times", e, found[e])
		}
	}
}

// Any bytes end, and without a panic.
func FuzzGet(f *testing.F) {
	for _, text := range []string{"", inName, inRows, inColumns + org, inRHS, inRanges, inBounds + " UP B x 1\nENDATA\n", inRHS + "ENDATA x"} {
		f.Add(text)
	}
	f.Fuzz(func(t *testing.T, text string) {
		c, no, e := core.Get(text)
		if e == api.OK && (no != 0 || core.May(c) != api.OK) || e != api.OK && !reflect.DeepEqual(c, api.Core{}) {
			t.Errorf("P8.2: Get(%q) is line %d, error %d, %v", text, no, e, c)
		}
	})
}
