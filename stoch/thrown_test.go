package stoch_test

import (
	"fmt"
	"math/big"
	"regexp"
	"slices"
	"strings"
	"testing"

	"victualler/api"
	"victualler/stoch"
)

// dice throws numbers that are the same in every run.
type dice uint64

func (d *dice) below(n int) int {
	*d = *d*6364136223846793005 + 1442695040888963407
	return int(*d>>33) % n
}

func (d *dice) of(texts ...string) string { return texts[d.below(len(texts))] }

func (d *dice) col() string { return d.of("x", "y", "z", "RHS", "BL", "SC", name20, "ENDATA", "1") }

func (d *dice) row() string { return d.of("r", "s", "t", "RHS", "x", "'ROOT'", name20) }

func (d *dice) place() api.Place { return api.Place{Col: d.col(), Row: d.row()} }

// asRead is a place as it is kept.
func asRead(at api.Place) api.Place {
	if at.Col == "RHS" {
		at.Col = ""
	}
	return at
}

// number throws a literal, and what it is.
func (d *dice) number() (word, text string) {
	all := [][2]string{{"0", "0"}, {"1", "1"}, {"-2.5", "-5/2"}, {"+1e2", "100"}, {"7/3", "7/3"}, {".125", "1/8"}, {"-0", "0"}, {"3.", "3"}}
	one := all[d.below(len(all))]
	return one[0], one[1]
}

// shares throws n probabilities, which come to 1 but now and then.
func (d *dice) shares(n int) []*big.Rat {
	weights, all := make([]int64, n), int64(0)
	for k := range weights {
		weights[k] = int64(1 + d.below(4))
		all += weights[k]
	}
	var ps []*big.Rat
	for _, w := range weights {
		ps = append(ps, big.NewRat(w, all))
	}
	if d.below(30) == 0 {
		ps[d.below(n)] = big.NewRat(int64(d.below(9)-2), 7)
	}
	return ps
}

// word writes a number as a fraction or, if it can be, as a decimal.
func (d *dice) word(p *big.Rat) string {
	decimal := p.FloatString(6)
	if back, _ := new(big.Rat).SetString(decimal); back.Cmp(p) == 0 && d.below(2) == 0 {
		return decimal
	}
	return p.RatString()
}

// some throws how many there are: few, but now and then about as many as may be.
func (d *dice) some(least, most int) int {
	if d.below(100) == 0 {
		return most + d.below(2)
	}
	return least + d.below(5)
}

// file is a file that is being thrown: the lines behind the Head of its kind, and
// what they tell. wrongs are, behind each line (and ahead of the first one), lines
// that are wrong there.
type file struct {
	dice   *dice
	kind   int
	lines  []string
	wrongs [][]wrongLine
	groups []api.Group
	closed []api.Place // INDEP: those of the groups but the last one
	names  []string    // SCENARIOS: those of the scenarios
}

type wrongLine struct {
	line string
	e    api.Errno
}

func (f *file) add(words ...string) {
	blank := f.dice.of(" ", "\t", "  ", " \t")
	f.lines = append(f.lines, blank+strings.Join(words, blank)+f.dice.of("", "", " ", "\r"))
}

func (f *file) indep() {
	for range f.dice.some(0, 40) {
		at := f.dice.place()
		if len(f.groups) > 5 {
			at.Row = fmt.Sprint("r", len(f.groups))
		}
		if slices.ContainsFunc(f.groups, func(g api.Group) bool { return g.Cases[0].Es[0].At == asRead(at) }) {
			continue
		}
		f.groups = append(f.groups, api.Group{})
		g := &f.groups[len(f.groups)-1]
		for _, p := range f.dice.shares(f.dice.some(1, 64)) {
			word, text := f.dice.number()
			g.Cases = append(g.Cases, one(p.RatString(), entry(asRead(at).Col, at.Row, text)))
			words := []string{at.Col, at.Row, word}
			if f.dice.below(2) == 0 {
				words = append(words, f.dice.of("P", long, "1", "y"))
			}
			f.add(append(words, f.dice.word(p))...)
			f.wrongs = append(f.wrongs, f.wrongValues())
		}
		f.closed = append(f.closed, at)
	}
}

// wrongValues are lines that are wrong behind those of INDEP, as far as they are.
func (f *file) wrongValues() []wrongLine {
	wrongs := []wrongLine{{"q", api.ErrForm}, {"q r", api.ErrForm}, {"q r 1", api.ErrForm}, {"q r 1 P 1 1", api.ErrForm}, {long + " r 1 1", api.ErrName}, {"q " + long + " 1 P 1", api.ErrName}, {"q " + long + " y y", api.ErrName}, {"q r y 1", api.ErrForm}, {"q r 1 y", api.ErrForm}, {"q r 1 P inf", api.ErrForm}}
	for _, at := range f.closed {
		wrongs = append(wrongs, wrongLine{at.Col + " " + at.Row + " 1 1", api.ErrName}, wrongLine{at.Col + " " + at.Row + " 1 P 1", api.ErrName}, wrongLine{at.Col + " " + at.Row + " 1 y", api.ErrForm})
	}
	return wrongs
}

// entries throws a case's entries.
func (f *file) entries(c *api.Case) {
	var places []api.Place
	f.wrongs = append(f.wrongs, f.wrongEntries(nil))
	for range f.dice.some(0, 40) {
		at := f.dice.place()
		if len(places) > 5 {
			at.Row = fmt.Sprint("r", len(places))
		}
		if slices.Contains(places, at) {
			continue
		}
		places = append(places, at)
		word, text := f.dice.number()
		c.Es = append(c.Es, entry(asRead(at).Col, at.Row, text))
		f.add(at.Col, at.Row, word)
		f.wrongs = append(f.wrongs, f.wrongEntries(places))
	}
}

func (f *file) wrongEntries(places []api.Place) []wrongLine {
	wrongs := []wrongLine{{"q", api.ErrForm}, {"q r", api.ErrForm}, {"q r 1 1", api.ErrForm}, {"BL a", api.ErrForm}, {"SC t ROOT P 1 1", api.ErrForm}, {long + " r 1", api.ErrName}, {"q " + long + " y", api.ErrName}, {"q r y", api.ErrForm}, {"q r inf", api.ErrForm}}
	for _, at := range places {
		wrongs = append(wrongs, wrongLine{at.Col + " " + at.Row + " 1", api.ErrName}, wrongLine{at.Col + " " + at.Row + " y", api.ErrName})
	}
	if f.kind == api.KBlock {
		return append(wrongs, wrongLine{"BL " + long + " P y", api.ErrName}, wrongLine{"BL a " + long + " 1", api.ErrName}, wrongLine{"BL a P y", api.ErrForm}, wrongLine{"SC t ROOT P 1", api.ErrForm})
	}
	for _, name := range f.names {
		wrongs = append(wrongs, wrongLine{"SC " + name + " ROOT P 1", api.ErrName}, wrongLine{"SC " + name + " q P y", api.ErrName})
	}
	return append(wrongs, wrongLine{"SC " + long + " q P y", api.ErrName}, wrongLine{"SC q q " + long + " y", api.ErrKind}, wrongLine{"SC q ROOT " + long + " y", api.ErrName}, wrongLine{"SC q 'ROOT' P y", api.ErrForm}, wrongLine{"BL a P 1", api.ErrForm})
}

// aheadOfCases are lines that are wrong where no case has begun.
func aheadOfCases() []wrongLine {
	return []wrongLine{{"q", api.ErrOrder}, {"q r 1", api.ErrOrder}, {long + " r y", api.ErrOrder}, {"BL a P", api.ErrOrder}, {"SC s ROOT P", api.ErrOrder}, {"BL a P 1 1", api.ErrOrder}, {"x r 1 1", api.ErrOrder}}
}

// blocks throws cases of blocks, in any order.
func (f *file) blocks() {
	f.wrongs = append(f.wrongs, append(aheadOfCases(), wrongLine{"SC s ROOT P 1", api.ErrOrder}, wrongLine{"BL a P y", api.ErrForm}))
	var names []string
	shares := map[string][]*big.Rat{}
	for k := range f.dice.some(0, 40) {
		name := fmt.Sprint(f.dice.of("a", "B", "RHS", "'"), k)
		shares[name] = f.dice.shares(f.dice.some(1, 64))
		for range shares[name] {
			names = slices.Insert(names, f.dice.below(len(names)+1), name)
		}
	}
	for _, name := range names {
		p := shares[name][0]
		shares[name] = shares[name][1:]
		f.add("BL", name, f.dice.of("P", "RHS", name20), f.dice.word(p))
		c := one(p.RatString())
		f.entries(&c)
		at := slices.IndexFunc(f.groups, func(g api.Group) bool { return g.Name == name })
		if at < 0 {
			at = len(f.groups)
			f.groups = append(f.groups, group(name))
		}
		f.groups[at].Cases = append(f.groups[at].Cases, c)
	}
}

func (f *file) scenarios() {
	f.wrongs = append(f.wrongs, append(aheadOfCases(), wrongLine{"BL a P 1", api.ErrOrder}, wrongLine{"SC s q P y", api.ErrKind}))
	f.groups = []api.Group{group("ROOT")}
	if f.dice.below(50) == 0 {
		return
	}
	for k, p := range f.dice.shares(f.dice.some(1, 64)) {
		name := fmt.Sprint(f.dice.of("s", "ROOT", "SC", "'"), k)
		f.add("SC", name, f.dice.of("ROOT", "'ROOT'"), f.dice.of("P", "ROOT", name20), f.dice.word(p))
		f.names = append(f.names, name)
		c := one(p.RatString())
		f.entries(&c)
		f.groups[0].Cases = append(f.groups[0].Cases, c)
	}
}

func (d *dice) file() *file {
	f := &file{dice: d, kind: 1 + d.below(3)}
	switch f.kind {
	case api.KIndep:
		f.wrongs = append(f.wrongs, f.wrongValues())
		f.indep()
	case api.KBlock:
		f.blocks()
	default:
		f.scenarios()
	}
	return f
}

// head is what stands ahead of a file's lines.
func (f *file) head() []string {
	return []string{"STOCH T", []string{"", "INDEP", "BLOCKS", "SCENARIOS"}[f.kind] + " DISCRETE"}
}

// padded puts lines that are passed over between lines, and tells the text and
// the number of its last line that is none of them.
func (d *dice) padded(lines []string) (string, int) {
	text, no := "", 0
	for _, line := range lines {
		for d.below(9) == 0 {
			text += d.of("", " ", "\t\r", "*", "* x r 1 1", "*ENDATA") + "\n"
			no++
		}
		text += line + "\n"
		no++
	}
	return text, no
}

// wrongHead is a Head that is wrong behind that of a kind.
func (d *dice) wrongHead() wrongLine {
	heads := []wrongLine{{"STOCH T", api.ErrOrder}, {"STOCH", api.ErrOrder}, {"WHAT", api.ErrOrder}, {long + " x y", api.ErrOrder}, {"NAME T", api.ErrOrder}, {"ENDATA x", api.ErrForm}, {"INDEP DISCRETE", api.ErrKind}, {"BLOCKS NORMAL", api.ErrKind}, {"SCENARIOS", api.ErrForm}}
	return heads[d.below(len(heads))]
}

func TestGetOfThrownFiles(t *testing.T) {
	d := dice(10)
	count := map[string]int{}
	for range 6000 {
		f := d.file()
		want := answer{name: "T", s: of(f.kind, f.groups...)}
		if e := mayBe(want.s); e != api.OK {
			want = answer{e: e}
		}
		text, no := d.padded(slices.Concat(f.head(), f.lines, []string{"ENDATA"}))
		if no > 2500 {
			continue
		}
		count[fmt.Sprint("behind all ", want.e)]++
		hold(t, text+d.of("", "ENDATA\n", " x\n"), want)
		hold(t, strings.TrimSuffix(text, "ENDATA\n"), answer{e: api.ErrOrder})
		for range 4 {
			at := d.below(len(f.lines) + 1)
			wrong := f.wrongs[at][d.below(len(f.wrongs[at]))]
			wrong.line = " " + wrong.line
			if d.below(8) == 0 {
				wrong = d.wrongHead()
			}
			count[fmt.Sprint("in a line ", wrong.e)]++
			text, no := d.padded(slices.Concat(f.head(), f.lines[:at], []string{wrong.line}))
			behind, _ := d.padded(slices.Concat(f.lines[at:], []string{"ENDATA"}))
			hold(t, text+behind, answer{line: no, e: wrong.e})
		}
	}
	for _, what := range []string{"behind all 0", "behind all 1", "behind all 6", "behind all 8", "in a line 1", "in a line 4", "in a line 5", "in a line 7"} {
		if count[what] < 50 {
			t.Errorf("the test is wrong: %s comes %d times", what, count[what])
		}
	}
}

var (
	nameForm   = regexp.MustCompile(`\A[!-~]{1,20}\z`)
	numberForm = regexp.MustCompile(`\A(0|-?[1-9][0-9]{0,999}[0-9]{0,999}[0-9]?(/([2-9]|[1-9][0-9]{1,999}[0-9]{0,999}[0-9]?))?)\z`)
)

// numberOf is what frac.Get has of a text; nil: nothing.
func numberOf(text string) *big.Rat {
	if !numberForm.MatchString(text) {
		return nil
	}
	x, _ := new(big.Rat).SetString(text)
	if x.RatString() != text {
		return nil
	}
	return x
}

// wrongForms are the chapter's ErrForms of a Stoch, one by one.
func wrongForms(s api.Stoch) bool {
	places, names := map[api.Place]int{}, map[string]int{}
	for _, g := range s.Groups {
		names[g.Name]++
		inGroup := map[api.Place]int{}
		for _, c := range g.Cases {
			inCase := map[api.Place]int{}
			for _, e := range c.Es {
				inCase[e.At]++
				inGroup[e.At]++
				if inCase[e.At] > 1 || numberOf(e.V) == nil || e.At.Col != "" && !nameForm.MatchString(e.At.Col) || e.At.Col == "RHS" || !nameForm.MatchString(e.At.Row) {
					return true
				}
			}
			if p := numberOf(c.P); p == nil || p.Sign() <= 0 || s.Kind == 1 && len(c.Es) != 1 {
				return true
			}
		}
		for at := range inGroup {
			places[at]++
			if s.Kind == 1 && (len(inGroup) > 1 || places[at] > 1) {
				return true
			}
		}
		switch {
		case s.Kind == 1 && (g.Name != "" || len(g.Cases) == 0),
			s.Kind == 2 && (!nameForm.MatchString(g.Name) || names[g.Name] > 1 || len(g.Cases) == 0),
			s.Kind == 3 && g.Name != "ROOT":
			return true
		}
	}
	return s.Kind == 3 && len(s.Groups) != 1
}

// mayBe is what the chapter asks of May.
func mayBe(s api.Stoch) api.Errno {
	if s.Kind != 1 && s.Kind != 2 && s.Kind != 3 {
		return api.ErrKind
	}
	if wrongForms(s) {
		return api.ErrForm
	}
	limit := len(s.Groups) > 40
	for _, g := range s.Groups {
		all := new(big.Rat)
		for _, c := range g.Cases {
			all.Add(all, numberOf(c.P))
			limit = limit || len(c.Es) > 40
		}
		if all.RatString() != "1" {
			return api.ErrProb
		}
		limit = limit || len(g.Cases) > 64
	}
	if limit {
		return api.ErrLimit
	}
	return api.OK
}

// turned changes something of a Stoch.
func (d *dice) turned(s *api.Stoch) {
	name := d.of("", "a", "RHS", "ROOT", "x", long, "r", "a b")
	number := d.of("", "0", "1", "1/2", "-1", "2/4", "1/3", "1.5", "x")
	at := d.place()
	if len(s.Groups) == 0 || d.below(20) == 0 {
		s.Groups = append(s.Groups, group(name, one(number, entry(at.Col, at.Row, number))))
		return
	}
	g := &s.Groups[d.below(len(s.Groups))]
	if d.below(8) == 0 || len(g.Cases) == 0 {
		g.Name = name
		return
	}
	if d.below(30) == 0 {
		s.Kind = d.below(5)
		return
	}
	c := &g.Cases[d.below(len(g.Cases))]
	switch d.below(7) {
	case 0:
		c.P = number
	case 1:
		g.Cases = append(g.Cases, *c)
	case 2:
		g.Cases = g.Cases[1:]
	case 3:
		c.Es = append(c.Es, entry(at.Col, at.Row, number))
	case 4:
		s.Groups = append(s.Groups, *g)
	}
	if len(c.Es) == 0 {
		return
	}
	e := &c.Es[d.below(len(c.Es))]
	switch d.below(8) {
	case 0:
		e.V = number
	case 1:
		e.At.Col = name
	case 2:
		e.At.Row = name
	case 3:
		e.At = asRead(at)
	}
}

func TestMayOfThrownStochs(t *testing.T) {
	d := dice(11)
	count := map[api.Errno]int{}
	for range 12000 {
		f := d.file()
		s := of(f.kind, f.groups...)
		same := roomy(s)
		for range d.below(3) {
			d.turned(&s)
		}
		want := mayBe(s)
		count[want]++
		if e := stoch.May(s); e != want {
			t.Fatalf("P10.1: May(%s) is %d, not %d", told(s), e, want)
		}
		if !stoch.Eq(s, roomy(s)) || stoch.Eq(s, same) != (told(s) == told(same)) {
			t.Fatalf("P10.1: Eq of %s", told(s))
		}
	}
	for _, e := range []api.Errno{api.OK, api.ErrForm, api.ErrKind, api.ErrProb, api.ErrLimit} {
		if count[e] < 30 {
			t.Errorf("the test is wrong: error %d comes %d times", e, count[e])
		}
	}
}

// Any bytes: Get answers what may be, or nothing.
func FuzzGet(f *testing.F) {
	d := dice(12)
	for range 60 {
		file := d.file()
		text, _ := d.padded(slices.Concat(file.head(), file.lines, []string{"ENDATA"}))
		f.Add(text)
		f.Add(strings.Replace(text, d.of(" ", "1", "DISCRETE", "BL", "SC", "ENDATA", "x"), d.of("", " ", "/", "RHS", "\n"), 1+d.below(3)))
	}
	f.Fuzz(func(t *testing.T, text string) {
		got := get(text)
		if got.e != api.OK {
			hold(t, text, answer{line: got.line, e: got.e})
			return
		}
		if e := mayBe(got.s); e != api.OK || stoch.May(got.s) != api.OK || got.line != 0 || !nameForm.MatchString(got.name) {
			t.Errorf("P10.2: Get(%q) is %s, which may not be: %d", text, got.text(), e)
		}
	})
}
