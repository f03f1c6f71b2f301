package stoch_test

import (
	"fmt"
	"slices"
	"strings"
	"testing"

	"victualler/api"
	"victualler/stoch"
)

// A file, section by section; each is what stands ahead of what is to be tried.
const (
	inStoch  = "STOCH T\n"
	inIndep  = inStoch + "INDEP DISCRETE\n"
	inBlocks = inStoch + "BLOCKS DISCRETE\n"
	inScens  = inStoch + "SCENARIOS DISCRETE\n"
	inValue  = inIndep + " x r 1 1\n"
	inBlock  = inBlocks + " BL a P 1\n"
	inScen   = inScens + " SC s ROOT P 1\n"
	long     = "a23456789b123456789c1" // no Name
	name20   = "a23456789b123456789c"  // the longest Name
	far      = "1" + "00000000000000000000000000000000000000000000000000" + "00000000000000000000000000000000000000000000000000"
)

// answer is what Get answers.
type answer struct {
	name string
	s    api.Stoch
	line int
	e    api.Errno
}

func get(text string) answer {
	name, s, line, e := stoch.Get(text)
	return answer{name, s, line, e}
}

// told tells all of a Stoch (nil lists like empty ones).
func told(s api.Stoch) string { return fmt.Sprintf("%d %q", s.Kind, s.Groups) }

func (a answer) text() string {
	return fmt.Sprintf("%q, %s, line %d, error %d", a.name, told(a.s), a.line, a.e)
}

// hold holds an answer of Get against the one that is wanted.
func hold(t *testing.T, text string, want answer) {
	t.Helper()
	got := get(text)
	if got.text() != want.text() {
		t.Errorf("P10.2: Get(%.400q) is %.900s, not %.900s", text, got.text(), want.text())
	}
	if got.e != api.OK && got.s.Groups != nil {
		t.Errorf("P0.2: Get(%.400q) has groups beside error %d", text, got.e)
	}
}

// wrong holds that Get finds e in the last line of text, whatever stands behind.
func wrong(t *testing.T, text string, e api.Errno) {
	t.Helper()
	no := strings.Count(text, "\n") + 1
	texts := []string{text, text + "\n", text + "\nENDATA\n", text + "\nWHAT\n x\n", text + " \t\r\n\n* z\nINDEP\n", text + "\nSTOCH " + long}
	texts = append(texts, strings.ReplaceAll(text, "\n", "\r\n"), strings.ReplaceAll(text, "\n ", "\n\t \t")+"\t", strings.ReplaceAll(text, " ", "  "))
	for _, text := range texts {
		hold(t, text, answer{line: no, e: e})
	}
	// Lines that are passed over count as lines.
	hold(t, "* z\n\n \t \n"+text, answer{line: no + 3, e: e})
}

// right holds that Get reads text, which lacks its ENDATA, as want.
func right(t *testing.T, text, name string, s api.Stoch) {
	t.Helper()
	want := answer{name: name, s: s}
	for _, end := range []string{"ENDATA", "ENDATA\n", "ENDATA\r\n", "ENDATA \t\n", "*ENDATA\n\n \t\nENDATA", "ENDATA\nSTOCH T\nWHAT\n x\nENDATA x\n", "ENDATA\n x r 1 1\n x r 1\n BL a P 1\n", "ENDATA\nENDATA\nINDEP DISCRETE"} {
		hold(t, text+end, want)
	}
	whole := text + "ENDATA\n"
	for _, same := range []string{"*\n\n \t\n" + whole, strings.ReplaceAll(whole, "\n", "\r\n"), strings.ReplaceAll(whole, "\n", "\n\n* z\n"), strings.ReplaceAll(whole, " ", "\t "), strings.ReplaceAll(whole, "\n", " \t\n")} {
		hold(t, same, want)
	}
	for _, none := range []string{"", "\n", "* ENDATA\n", "*ENDATA"} {
		hold(t, text+none, answer{e: api.ErrOrder})
	}
	if e := stoch.May(s); e != api.OK {
		t.Errorf("P10.1: May of what Get(%.400q) reads is %d", text, e)
	}
}

func entry(col, row, v string) api.Entry {
	return api.Entry{At: api.Place{Col: col, Row: row}, V: v}
}

func one(p string, es ...api.Entry) api.Case { return api.Case{P: p, Es: es} }

func group(name string, cs ...api.Case) api.Group { return api.Group{Name: name, Cases: cs} }

func of(kind int, gs ...api.Group) api.Stoch { return api.Stoch{Kind: kind, Groups: gs} }

func TestGetIndep(t *testing.T) {
	x, y := group("", one("1", entry("x", "r", "1"))), group("", one("1", entry("y", "r", "1")))
	right(t, inIndep, "T", of(1))
	right(t, inValue, "T", of(1, x))
	right(t, inIndep+" x r 1 P 1\n", "T", of(1, x))
	right(t, inValue+" y r 1 1\n", "T", of(1, x, y))
	right(t, inIndep+" y r 1 1\n x r 1 1\n", "T", of(1, y, x))
	// One place's lines, of four words and of five.
	right(t, inIndep+" x r 4 two .25\n x r 12 0.5\n x r -1 2 1/4\n", "T", of(1, group("", one("1/4", entry("x", "r", "4")), one("1/2", entry("x", "r", "12")), one("1/4", entry("x", "r", "-1")))))
	right(t, inIndep+" x r 1 .5\n x r 1 .5\n", "T", of(1, group("", one("1/2", entry("x", "r", "1")), one("1/2", entry("x", "r", "1")))))
	// Places are the same if column and row are.
	right(t, inValue+" x s 1 1\n y r 1 1\n y s 1 1\n r x 1 1\n", "T", of(1, x, group("", one("1", entry("x", "s", "1"))), y, group("", one("1", entry("y", "s", "1"))), group("", one("1", entry("r", "x", "1")))))
	right(t, inValue+" X r 1 1\n x R 1 1\n", "T", of(1, x, group("", one("1", entry("X", "r", "1"))), group("", one("1", entry("x", "R", "1")))))
	// Words of other lines are names here.
	right(t, inIndep+" BL a 1 1\n SC s 1 P 1\n ENDATA ENDATA 0 ENDATA 1\n * * 1 * 1\n", "T", of(1, group("", one("1", entry("BL", "a", "1"))), group("", one("1", entry("SC", "s", "1"))), group("", one("1", entry("ENDATA", "ENDATA", "0"))), group("", one("1", entry("*", "*", "1")))))
	right(t, "STOCH STOCH\nINDEP DISCRETE\n "+name20+" "+name20+" 1 1\n ~ ! 1 1\n", "STOCH", of(1, group("", one("1", entry(name20, name20, "1"))), group("", one("1", entry("~", "!", "1")))))
}

// A period's name in INDEP is any word.
func TestGetsPeriodsOfIndep(t *testing.T) {
	for _, word := range []string{"P", "1", "0", "x", "RHS", "*", "~", "-", "inf", name20, long, strings.Repeat("w", 150)} {
		right(t, inIndep+" x r 1 "+word+" 1\n", "T", of(1, group("", one("1", entry("x", "r", "1")))))
	}
}

// RHS is the right side of any row, as a column and nowhere else.
func TestGetsRightSides(t *testing.T) {
	side := one("1", entry("", "r", "3"), entry("", "RHS", "4"), entry("rhs", "r", "5"), entry("RHS2", "r", "6"))
	lines := " RHS r 3\n RHS RHS 4\n rhs r 5\n RHS2 r 6\n"
	right(t, inBlock+lines, "T", of(2, group("a", side)))
	right(t, inScen+lines, "T", of(3, group("ROOT", side)))
	var each []api.Group
	for _, e := range side.Es {
		each = append(each, group("", one("1", e)))
	}
	right(t, inIndep+strings.ReplaceAll(lines, "\n", " 1\n"), "T", of(1, each...))
	right(t, inBlocks+" BL RHS RHS 1\n", "T", of(2, group("RHS", one("1"))))
	right(t, inScens+" SC RHS ROOT RHS 1\n", "T", of(3, group("ROOT", one("1"))))
	right(t, "STOCH RHS\nBLOCKS DISCRETE\n", "RHS", of(2))
}

func TestGetBlocks(t *testing.T) {
	right(t, inBlocks, "T", of(2))
	right(t, inBlock, "T", of(2, group("a", one("1"))))
	right(t, inBlock+" x r 1\n", "T", of(2, group("a", one("1", entry("x", "r", "1")))))
	right(t, inBlock+" y r 1\n x s 2\n x r 3\n", "T", of(2, group("a", one("1", entry("y", "r", "1"), entry("x", "s", "2"), entry("x", "r", "3")))))
	right(t, inBlock+" x r 1\n BL b Q 1\n x r 2\n", "T", of(2, group("a", one("1", entry("x", "r", "1"))), group("b", one("1", entry("x", "r", "2")))))
	right(t, inBlocks+" BL b P 1\n BL a P 1\n", "T", of(2, group("b", one("1")), group("a", one("1"))))
	// Cases of one block may stand anywhere; entries are of the newest case.
	right(t, inBlocks+" BL a P .5\n x r 1\n BL b P .25\n y r 2\n BL a Q .5\n x r 3\n x s 4\n BL b P 3/4\n BL c P 1\n y r 5\n", "T", of(2,
		group("a", one("1/2", entry("x", "r", "1")), one("1/2", entry("x", "r", "3"), entry("x", "s", "4"))),
		group("b", one("1/4", entry("y", "r", "2")), one("3/4")),
		group("c", one("1", entry("y", "r", "5")))))
	right(t, inBlocks+" BL a P .5\n BL a P .5\n x r 1\n", "T", of(2, group("a", one("1/2"), one("1/2", entry("x", "r", "1")))))
	// By its first word and its number of words a line is a case's.
	right(t, inBlocks+" BL BL BL 1\n BL BL 1\n BL r 2\n SC r 3\n BLX r 4\n bl r 5\n", "T", of(2, group("BL", one("1", entry("BL", "BL", "1"), entry("BL", "r", "2"), entry("SC", "r", "3"), entry("BLX", "r", "4"), entry("bl", "r", "5")))))
	right(t, "STOCH BL\nBLOCKS DISCRETE\n BL "+name20+" "+name20+" 1\n "+name20+" "+name20+" 1\n BL ~ ! 1\n", "BL", of(2, group(name20, one("1", entry(name20, name20, "1"))), group("~", one("1"))))
}

func TestGetScenarios(t *testing.T) {
	right(t, inScen, "T", of(3, group("ROOT", one("1"))))
	right(t, inScens+" SC s 'ROOT' P 1\n", "T", of(3, group("ROOT", one("1"))))
	right(t, inScen+" x r 1\n y r 2\n", "T", of(3, group("ROOT", one("1", entry("x", "r", "1"), entry("y", "r", "2")))))
	right(t, inScens+" SC s ROOT P .5\n x r 1\n SC t 'ROOT' Q .25\n SC S ROOT P 1/4\n x r 2\n x s 3\n", "T", of(3, group("ROOT", one("1/2", entry("x", "r", "1")), one("1/4"), one("1/4", entry("x", "r", "2"), entry("x", "s", "3")))))
	right(t, inScens+" SC SC ROOT SC 1\n SC r 7\n BL r 8\n sc r 9\n SCX r 1\n", "T", of(3, group("ROOT", one("1", entry("SC", "r", "7"), entry("BL", "r", "8"), entry("sc", "r", "9"), entry("SCX", "r", "1")))))
	right(t, "STOCH ROOT\nSCENARIOS DISCRETE\n SC ROOT ROOT ROOT 1/2\n SC 'ROOT' 'ROOT' 'ROOT' 1/2\n", "ROOT", of(3, group("ROOT", one("1/2"), one("1/2"))))
	right(t, inScens+" SC "+name20+" ROOT "+name20+" 1\n", "T", of(3, group("ROOT", one("1"))))
}

// numbers are literals and what they are; noNumbers are none.
func numbers() map[string]string {
	return map[string]string{"0": "0", "-0": "0", "1": "1", "+1": "1", "-1": "-1", "2.50": "5/2", ".5": "1/2", "5.": "5", "1e1": "10", "1E+1": "10", "25e-1": "5/2", "7/3": "7/3", "-7/3": "-7/3", "007": "7", "1e100": far, "1e30": "1" + strings.Repeat("0", 30), "-1e-100": "-1/" + far, strings.Repeat("3", 40): strings.Repeat("3", 40), "1/" + strings.Repeat("7", 38): "1/" + strings.Repeat("7", 38)}
}

func noNumbers() []string {
	return []string{"x", "-", "+", ".", "1e", "e1", "1e101", "1e1000", "2/4", "3/1", "1/0", "+1/2", "1/-2", "inf", "-inf", "INF", "infinity", "1,5", "1_0", "0x1", "--1", "1e1.5", strings.Repeat("3", 41), "1/" + strings.Repeat("7", 39), strings.Repeat("1", 150)}
}

func TestGetsNumbers(t *testing.T) {
	for word, number := range numbers() {
		right(t, inIndep+" x r "+word+" 1\n", "T", of(1, group("", one("1", entry("x", "r", number)))))
		right(t, inBlock+" x r "+word+"\n", "T", of(2, group("a", one("1", entry("x", "r", number)))))
		right(t, inScen+" x r "+word+"\n", "T", of(3, group("ROOT", one("1", entry("x", "r", number)))))
		// Lines of a P that may not be are right as such: May asks behind all.
		for _, text := range []string{inIndep + " x r 1 " + word, inIndep + " x r 1 P " + word, inBlocks + " BL a P " + word, inScens + " SC s ROOT P " + word} {
			e := api.ErrProb
			if number == "1" {
				e = api.OK
			} else if number == "0" || number[0] == '-' {
				e = api.ErrForm
			}
			if got := get(text + "\nENDATA"); got.e != e || got.line != 0 {
				t.Errorf("P10.2: Get(%q) is line %d, error %d", text, got.line, got.e)
			}
			wrong(t, text+"\nWHAT", api.ErrOrder)
		}
	}
	for word, number := range map[string]string{"1/2": "1/2", "0.5": "1/2", "5e-1": "1/2", "+.50": "1/2", "50.e-2": "1/2"} {
		right(t, inIndep+" x r 1 "+word+"\n x r 2 P .5\n", "T", of(1, group("", one(number, entry("x", "r", "1")), one("1/2", entry("x", "r", "2")))))
		right(t, inBlocks+" BL a P "+word+"\n BL a P .5\n", "T", of(2, group("a", one(number), one("1/2"))))
		right(t, inScens+" SC s ROOT P "+word+"\n SC t ROOT P .5\n", "T", of(3, group("ROOT", one(number), one("1/2"))))
	}
	for _, word := range noNumbers() {
		for _, text := range []string{inIndep + " x r " + word + " 1", inIndep + " x r " + word + " P 1", inIndep + " x r 1 " + word, inIndep + " x r 1 P " + word, inBlocks + " BL a P " + word, inBlock + " x r " + word, inBlock + " RHS r " + word, inScens + " SC s ROOT P " + word, inScens + " SC s 'ROOT' P " + word, inScen + " x r " + word} {
			wrong(t, text, api.ErrForm)
		}
	}
}

// Parents are two words, in just these letters.
func TestGetsParents(t *testing.T) {
	for _, parent := range []string{"s", "root", "Root", "'root'", "\"ROOT\"", "'ROOT", "ROOT'", "ROOTS", "''ROOT''", "T", "0", long} {
		wrong(t, inScens+" SC t "+parent+" P 1", api.ErrKind)
		wrong(t, inScen+" SC t "+parent+" P 1", api.ErrKind)
		wrong(t, inScen+" x r 1\n SC t "+parent+" P 1", api.ErrKind)
	}
}

// state is what stands ahead, and which Heads may follow.
type state struct{ ahead, next string }

func states() []state {
	return []state{{"", "STOCH"}, {inStoch, "KIND"}, {inIndep, "ENDATA"}, {inValue, "ENDATA"}, {inBlocks, "ENDATA"}, {inBlock, "ENDATA"}, {inBlock + " x r 1\n", "ENDATA"}, {inScens, "ENDATA"}, {inScen, "ENDATA"}, {inScen + " x r 1\n", "ENDATA"}}
}

func TestGetsHeads(t *testing.T) {
	for _, s := range states() {
		for _, head := range []string{"STOCH", "ENDATA", "stoch", "STOCHS", "STOCH.", "Stoch", "indep", "INDEPS", "BLOCK", "SCENARIO", "DISCRETE", "endata", "END", "NAME", "ROWS", "COLUMNS", "RHS", "TIME", "PERIODS", "BL", "SC", "x", "1", long} {
			if head == s.next {
				continue
			}
			for _, more := range []string{"", " T", " DISCRETE", " x y", " a b c d e", " " + long} {
				wrong(t, s.ahead+head+more, api.ErrOrder)
			}
		}
		for _, kind := range []string{"INDEP", "BLOCKS", "SCENARIOS"} {
			for _, more := range []string{"", " DISCRETE", " NORMAL", " DISCRETE x", " x y", " x y z"} {
				e := api.ErrKind
				switch {
				case s.next == "STOCH":
					e = api.ErrOrder
				case strings.Count(more, " ") != 1:
					e = api.ErrForm
				case s.next == "KIND" && more == " DISCRETE":
					continue
				}
				wrong(t, s.ahead+kind+more, e)
			}
		}
	}
}

// A second Head of a kind is one too many, whether it is the same or another.
func TestGetOfTwoKinds(t *testing.T) {
	for _, kind := range []string{"INDEP", "BLOCKS", "SCENARIOS"} {
		for _, word := range []string{"NORMAL", "UNIFORM", "discrete", "DISCRETE.", "DISCRETES", "ADD", "*", "DISCRETE*", "1", name20, long, strings.Repeat("w", 90)} {
			wrong(t, inStoch+kind+" "+word, api.ErrKind)
		}
		for _, ahead := range []string{inIndep, inBlocks, inScens, inValue, inBlock, inScen} {
			wrong(t, ahead+kind+" DISCRETE", api.ErrKind)
			wrong(t, ahead+kind+" NORMAL", api.ErrKind)
			wrong(t, ahead+kind, api.ErrForm)
		}
	}
}

// Of a Head ErrOrder, then the number of its words, then its name.
func TestGetsHeadsWords(t *testing.T) {
	for text, e := range map[string]api.Errno{
		"STOCH": api.ErrForm, "STOCH T U": api.ErrForm, "STOCH " + long + " U": api.ErrForm, "STOCH T " + long: api.ErrForm, "STOCH T INDEP DISCRETE": api.ErrForm,
		"STOCH " + long: api.ErrName, "STOCH " + strings.Repeat("x", 90): api.ErrName,
		inStoch + "STOCH": api.ErrOrder, inStoch + "STOCH " + long: api.ErrOrder, inStoch + "ENDATA": api.ErrOrder, inStoch + "ENDATA x": api.ErrOrder, "ENDATA": api.ErrOrder, "ENDATA x": api.ErrOrder, "INDEP": api.ErrOrder, "INDEP NORMAL": api.ErrOrder, "BLOCKS a b": api.ErrOrder,
	} {
		wrong(t, text, e)
	}
	for _, s := range states() {
		if s.next == "ENDATA" {
			wrong(t, s.ahead+"ENDATA x", api.ErrForm)
			wrong(t, s.ahead+"ENDATA "+long, api.ErrForm)
			wrong(t, s.ahead+"ENDATA x y z", api.ErrForm)
		}
	}
	right(t, "STOCH "+name20+"\nINDEP DISCRETE\n", name20, of(1))
	right(t, "STOCH *\nBLOCKS DISCRETE\n", "*", of(2))
}

// Data has no place ahead of the Head of a kind.
func TestGetOfDataElsewhere(t *testing.T) {
	for _, ahead := range []string{"", inStoch} {
		for _, data := range []string{"x", "x r", "x r 1", "x r 1 1", "x r 1 P 1", "x r 1 P 1 2", "BL a P 1", "SC s ROOT P 1", "STOCH T", "INDEP DISCRETE", "ENDATA", long + " r 1", long} {
			wrong(t, ahead+" "+data, api.ErrOrder)
			wrong(t, ahead+"\t"+data, api.ErrOrder)
		}
	}
	// A line's first byte tells whether it is a Head: one with a blank ahead is none.
	for _, ahead := range []string{inIndep, inBlock, inScen} {
		for _, data := range []string{" ENDATA", " STOCH T", " INDEP DISCRETE", " BLOCKS DISCRETE", " SCENARIOS DISCRETE"} {
			wrong(t, ahead+data, api.ErrForm)
		}
	}
}

func TestGetWithoutEnd(t *testing.T) {
	for _, text := range []string{"", "\n", "\n\n\n", " ", "*", "* STOCH T\n", "\r\n", "STOCH T", inStoch, inStoch + "* x\n", "STOCH T\nINDEP DISCRETE", inIndep, inBlocks + "\n \n*\n", inScens, inValue, inBlock, inScen, inScen + "*ENDATA\n", inIndep + " x r 1 0\n", inBlocks + " BL a P 5\n", strings.Repeat("\n", 2500)} {
		hold(t, text, answer{e: api.ErrOrder})
	}
}

// many are n words, of which none is a right one.
func many(n int) string { return strings.TrimSpace(strings.Repeat(" "+long, n)) }

// The number of words counts ahead of all else, but ErrOrder.
func TestGetsNumberOfWords(t *testing.T) {
	for n := 1; n <= 8; n++ {
		for _, ahead := range []string{inIndep, inValue} {
			if n != 4 && n != 5 {
				wrong(t, ahead+" "+many(n), api.ErrForm)
				wrong(t, ahead+" "+strings.Join(strings.Fields("x r 1 P 1 1 1 1 1")[:n], " "), api.ErrForm)
			}
		}
		for _, ahead := range []string{inBlock, inScen, inBlock + " x r 1\n", inScen + " x r 1\n"} {
			if n != 3 {
				wrong(t, ahead+" "+many(n), api.ErrForm)
				wrong(t, ahead+" "+strings.Join(strings.Fields("x r 1 P 1 1 1 1 1")[:n], " "), api.ErrForm)
			}
			if n != 3 && n != 4 {
				wrong(t, ahead+" "+strings.Join(strings.Fields("BL a P 1 1 1 1 1 1")[:n], " "), api.ErrForm)
			}
			if n != 3 && n != 5 {
				wrong(t, ahead+" "+strings.Join(strings.Fields("SC t ROOT P 1 1 1 1 1")[:n], " "), api.ErrForm)
			}
		}
		for _, ahead := range []string{inBlocks, inScens} {
			wrong(t, ahead+" "+many(n), api.ErrOrder)
			wrong(t, ahead+" "+strings.Join(strings.Fields("x r 1 P 1 1 1 1 1")[:n], " "), api.ErrOrder)
			if n != 4 || ahead != inBlocks {
				wrong(t, ahead+" "+strings.Join(strings.Fields("BL a P 1 1 1 1 1 1")[:n], " "), api.ErrOrder)
			}
			if n != 5 || ahead != inScens {
				wrong(t, ahead+" "+strings.Join(strings.Fields("SC s ROOT P 1 1 1 1 1")[:n], " "), api.ErrOrder)
			}
		}
	}
	// A case's line of the other kind is an entry.
	wrong(t, inScen+" BL a P 1", api.ErrForm)
	wrong(t, inBlock+" SC t ROOT P 1", api.ErrForm)
	wrong(t, inScens+" BL a P 1", api.ErrOrder)
	wrong(t, inBlocks+" SC t ROOT P 1", api.ErrOrder)
	wrong(t, inBlock+" bl b P 1", api.ErrForm)
	wrong(t, inScen+" sc t ROOT P 1", api.ErrForm)
}

// wording is a word that is right, and one that is wrong and of which error.
type wording struct {
	right, wrong string
	e            api.Errno
}

// allOf holds the first error of lines of which some words are wrong, of all
// choices of wrong ones.
func allOf(t *testing.T, ahead string, words ...wording) {
	t.Helper()
	for wrongs := 1; wrongs < 1<<len(words); wrongs++ {
		line, e := "", api.OK
		for k, w := range words {
			if wrongs>>k&1 == 0 {
				line += " " + w.right
				continue
			}
			line += " " + w.wrong
			if e == api.OK {
				e = w.e
			}
		}
		if e != api.OK {
			wrong(t, ahead+line, e)
			wrong(t, ahead+line+" x x x", errorOfLong(ahead))
		}
	}
}

// errorOfLong is a line's of many words, behind what stands ahead.
func errorOfLong(ahead string) api.Errno {
	if ahead == inBlocks || ahead == inScens {
		return api.ErrOrder
	}
	return api.ErrForm
}

// Errors of a line count by its words from the left.
func TestGetsFirstErrorOfALine(t *testing.T) {
	col, row, number := wording{"x", long, api.ErrName}, wording{"r", long, api.ErrName}, wording{"1", "y", api.ErrForm}
	always := func(word string) wording { return wording{word, word, api.OK} }
	for _, ahead := range []string{inIndep, inIndep + " z r 1 1\n", inIndep + " x r 1 .5\n"} {
		allOf(t, ahead, col, row, number, number)
		allOf(t, ahead, col, row, number, wording{"P", long, api.OK}, number)
	}
	// A place that was there ahead, whose error counts last.
	for _, ahead := range []string{inIndep + " x r 1 1\n z r 1 1\n", inIndep + " z z 1 1\n x r 1 .5\n x r 1 .5\n x z 1 1\n RHS r 1 1\n"} {
		for _, place := range []string{" x r", "\tx\tr"} {
			wrong(t, ahead+place+" 1 1", api.ErrName)
			wrong(t, ahead+place+" 1 P 1", api.ErrName)
			wrong(t, ahead+place+" y 1", api.ErrForm)
			wrong(t, ahead+place+" 1 y", api.ErrForm)
			wrong(t, ahead+place+" y P 1", api.ErrForm)
			wrong(t, ahead+place+" 1 P y", api.ErrForm)
			wrong(t, ahead+place+" 1", api.ErrForm)
			wrong(t, ahead+place+" 1 P 1 1", api.ErrForm)
		}
	}
	name, period := wording{"b", long, api.ErrName}, wording{"P", long, api.ErrName}
	for _, ahead := range []string{inBlocks, inBlock, inBlock + " x r 1\n"} {
		allOf(t, ahead, always("BL"), name, period, number)
		allOf(t, ahead, always("BL"), wording{"a", long, api.ErrName}, period, number)
	}
	parent := wording{"ROOT", "OTHER", api.ErrKind}
	for _, ahead := range []string{inScens, inScen, inScen + " x r 1\n"} {
		allOf(t, ahead, always("SC"), wording{"t", long, api.ErrName}, parent, period, number)
		allOf(t, ahead, always("SC"), wording{"t", long, api.ErrName}, wording{"'ROOT'", long, api.ErrKind}, period, number)
	}
	for _, ahead := range []string{inScen, inScen + " x r 1\n", inScens + " SC s ROOT P .5\n SC z ROOT P .5\n"} {
		allOf(t, ahead, always("SC"), wording{"t", "s", api.ErrName}, parent, period, number)
	}
	for _, ahead := range []string{inBlock, inScen, inBlock + " z r 1\n", inScen + " z r 1\n"} {
		allOf(t, ahead, col, row, number)
		allOf(t, ahead, wording{"RHS", long, api.ErrName}, row, number)
		allOf(t, ahead+" x r 1\n", always("x"), wording{"z", "r", api.ErrName}, number)
		allOf(t, ahead+" x r 1\n", wording{"y", "x", api.ErrName}, always("r"), number)
	}
}

// Lines of one place stand together; RHS is one column of all.
func TestGetOfPlacesThereAhead(t *testing.T) {
	for _, col := range []string{"x", "RHS"} {
		for _, between := range []string{" y r 1 1\n", " " + col + " s 1 1\n", " r " + col + " 1 1\n", " y r 1 .5\n* z\n y r 1 P .5\n", " y r 1 1\n z r 1 1\n y s 1 1\n"} {
			wrong(t, inIndep+" "+col+" r 1 1\n"+between+" "+col+" r 1 1", api.ErrName)
			wrong(t, inIndep+" "+col+" r 1 1\n"+between+" "+col+" r 1 P 1", api.ErrName)
			wrong(t, inIndep+" z z 1 1\n "+col+" r 1 .5\n "+col+" r 2 .5\n"+between+" "+col+" r 1 1", api.ErrName)
		}
	}
	wrong(t, inIndep+" x r 1 1\n y r 1 1\n x s 1 1\n x r 1 1", api.ErrName)
	wrong(t, inIndep+" x r 1 1\n y r 1 1\n x s 1 1\n y r 1 1", api.ErrName)
}

func TestGetOfEntriesTwice(t *testing.T) {
	for _, ahead := range []string{inBlock, inScen} {
		for _, col := range []string{"x", "RHS"} {
			for _, between := range []string{"", " y r 1\n", " " + col + " s 1\n r " + col + " 1\n", "* z\n\n"} {
				wrong(t, ahead+" "+col+" r 1\n"+between+" "+col+" r 1", api.ErrName)
				wrong(t, ahead+" "+col+" r 1\n"+between+" "+col+" r 2", api.ErrName)
				wrong(t, ahead+" z r 1\n "+col+" r 1\n"+between+" "+col+" r y", api.ErrName)
			}
		}
	}
	// Of another case of the same block, or of another block, each may be again.
	right(t, inBlocks+" BL a P .5\n x r 1\n BL a P .5\n x r 1\n BL b P 1\n x r 1\n", "T", of(2, group("a", one("1/2", entry("x", "r", "1")), one("1/2", entry("x", "r", "1"))), group("b", one("1", entry("x", "r", "1")))))
	wrong(t, inBlocks+" BL a P .5\n x r 1\n BL a P .5\n x r 1\n x s 1\n x r 1", api.ErrName)
	wrong(t, inBlocks+" BL a P 1\n x r 1\n BL b P 1\n BL a P 1\n y r 1\n y r 1", api.ErrName)
	right(t, inScens+" SC s ROOT P .5\n x r 1\n SC t ROOT P .5\n x r 1\n", "T", of(3, group("ROOT", one("1/2", entry("x", "r", "1")), one("1/2", entry("x", "r", "1")))))
	wrong(t, inScens+" SC s ROOT P .5\n x r 1\n SC t ROOT P .5\n x r 1\n x r 1", api.ErrName)
}

func TestGetOfScenariosTwice(t *testing.T) {
	for _, between := range []string{"", " x r 1\n", " SC t ROOT P 1\n", " SC t 'ROOT' Q 1\n x r 1\n SC u ROOT P 1\n"} {
		wrong(t, inScen+between+" SC s ROOT P 1", api.ErrName)
		wrong(t, inScen+between+" SC s 'ROOT' Q 2", api.ErrName)
	}
	// A word of an entry, a parent, a period is no scenario's name.
	right(t, inScens+" SC s ROOT P 1/2\n x r 1\n SC x ROOT P 1/6\n SC r ROOT P 1/6\n SC P ROOT P 1/6\n", "T", of(3, group("ROOT", one("1/2", entry("x", "r", "1")), one("1/6"), one("1/6"), one("1/6"))))
}

// What is wrong with the lines as such counts ahead of all, wherever it stands.
func TestGetOfWrongLines(t *testing.T) {
	for _, ahead := range []string{"", "WHAT\n", " x\n", "STOCH\n", inStoch, inStoch + "INDEP NORMAL\n", inIndep, inBlocks + " x\n", inScen, inScen + "ENDATA\n", inBlocks + "ENDATA x\n x\n", inBlocks + " BL a P 2\nENDATA\n"} {
		no := strings.Count(ahead, "\n") + 1
		for line, e := range map[string]api.Errno{"\x00": api.ErrForm, " x\x7f r 1": api.ErrForm, "*\x80": api.ErrForm, "é": api.ErrForm, " x\r r 1": api.ErrForm, strings.Repeat("x", 201): api.ErrLimit, strings.Repeat(" ", 201): api.ErrLimit, "*" + strings.Repeat("\x00", 200): api.ErrLimit} {
			for _, behind := range []string{"", "\n", "\nWHAT\nENDATA\n", "\n\x00"} {
				hold(t, ahead+line+behind, answer{line: no, e: e})
			}
		}
		hold(t, ahead+strings.Repeat("\n", 2500-no+1), get(ahead))
		hold(t, ahead+strings.Repeat("\n", 2500-no+1)+"*", answer{line: 2501, e: api.ErrLimit})
		hold(t, ahead+strings.Repeat("*\n", 9000), answer{line: 2501, e: api.ErrLimit})
	}
}

func TestGetGoesLineByLine(t *testing.T) {
	for text, want := range map[string]answer{
		"STOCH\nSTOCH T":                             {line: 1, e: api.ErrForm},
		"STOCH " + long + "\nWHAT":                   {line: 1, e: api.ErrName},
		inStoch + "WHAT\nINDEP NORMAL":               {line: 2, e: api.ErrOrder},
		inStoch + "INDEP NORMAL\nWHAT":               {line: 2, e: api.ErrKind},
		inIndep + " x r y 1\n x\nWHAT\nINDEP":        {line: 3, e: api.ErrForm},
		inIndep + "WHAT\n x\nINDEP":                  {line: 3, e: api.ErrOrder},
		inIndep + "INDEP DISCRETE\n x\nWHAT":         {line: 3, e: api.ErrKind},
		inBlocks + " x r 1\n BL a P x\n":             {line: 3, e: api.ErrOrder},
		inBlocks + " BL a P x\n x r 1\n":             {line: 3, e: api.ErrForm},
		inBlock + " x r 1\n x r 1\n x r y\nENDATA x": {line: 5, e: api.ErrName},
		inScen + " SC t OTHER P 1\n SC s ROOT P 1\n": {line: 4, e: api.ErrKind},
		inScen + " SC s ROOT P 1\n SC t OTHER P 1\n": {line: 4, e: api.ErrName},
		inIndep + " x r 1 0\n x r 1 0\nENDATA x":     {line: 5, e: api.ErrForm},
		inIndep + " x r 1 0\nENDATA\n x\nENDATA x":   {line: 0, e: api.ErrForm},
	} {
		hold(t, text, want)
	}
}

// lines are n lines, made by their numbers.
func lines(n int, form string) string {
	text := ""
	for k := range n {
		text += strings.ReplaceAll(strings.ReplaceAll(form, "#", fmt.Sprint(k)), "N", fmt.Sprint(n)) + "\n"
	}
	return text
}

// Behind all, at line 0, May's error.
func TestGetsLastError(t *testing.T) {
	for text, e := range map[string]api.Errno{
		inIndep + " x r 1 0.5\n": api.ErrProb, inIndep + " x r 1 1\n y r 1 .5\n": api.ErrProb, inIndep + " x r 1 .5\n y r 1 .5\n": api.ErrProb, inIndep + " x r 1 1\n x r 1 1e-100\n": api.ErrProb, inIndep + " x r 1 .5\n x r 2 0.49999999999999999999999999999999999999\n": api.ErrProb,
		inIndep + " x r 1 0\n x r 1 1\n": api.ErrForm, inIndep + " x r 1 -1\n x r 1 2\n": api.ErrForm, inIndep + " x r 1 .5\n y r 1 0\n": api.ErrForm,
		inBlocks + " BL a P .5\n": api.ErrProb, inBlocks + " BL a P 1\n BL a P 1\n": api.ErrProb, inBlocks + " BL a P .5\n BL b P .5\n": api.ErrProb, inBlock + " BL a P 0\n": api.ErrForm, inBlocks + " BL a P 2\n BL a P -1\n": api.ErrForm,
		inScens: api.ErrProb, inScens + " SC s ROOT P .5\n": api.ErrProb, inScens + " SC s ROOT P 2\n": api.ErrProb, inScen + " SC t ROOT P 0\n": api.ErrForm, inScens + " SC s ROOT P 2\n SC t ROOT P -1\n": api.ErrForm,
		inIndep + lines(41, " x# r 1 1"): api.ErrLimit, inIndep + lines(40, " x# r 1 1") + " RHS r 1 1\n": api.ErrLimit, inIndep + lines(65, " x r # 1/N"): api.ErrLimit, inIndep + lines(41, " x# r 1 2"): api.ErrProb, inIndep + lines(65, " x r # 1/64"): api.ErrProb, inIndep + lines(65, " x r 1 0"): api.ErrForm,
		inBlocks + lines(41, " BL b# P 1"): api.ErrLimit, inBlocks + lines(65, " BL a P 1/N"): api.ErrLimit, inBlock + lines(41, " x# r 1"): api.ErrLimit, inBlocks + lines(41, " BL b# P .5"): api.ErrProb, inBlocks + lines(41, " BL b# P 0"): api.ErrForm,
		inScens + lines(65, " SC s# ROOT P 1/N"): api.ErrLimit, inScen + lines(41, " x# r 1"): api.ErrLimit, inScen + lines(41, " x r# 1") + " SC t ROOT P 1\n": api.ErrProb, inScens + lines(65, " SC s# ROOT P 0"): api.ErrForm,
		inBlocks + lines(2490, " BL a P 1/N"): api.ErrLimit, inIndep + lines(2490, " x r 1 1/N"): api.ErrLimit, inScens + lines(2490, " SC s# ROOT P 1/N"): api.ErrLimit, inIndep + lines(2490, " x# r 1 1"): api.ErrLimit, inBlocks + lines(2490, " BL a# P 1"): api.ErrLimit, inBlock + lines(2490, " x# r 1"): api.ErrLimit,
	} {
		hold(t, text+"ENDATA\n", answer{e: e})
		hold(t, text+"\n*\nENDATA\nmore", answer{e: e})
		hold(t, text, answer{e: api.ErrOrder})
	}
}

func TestGetAtItsLimits(t *testing.T) {
	for text, counts := range map[string][3]int{
		inIndep + lines(40, " x# r 1 1"): {40, 1, 1}, inIndep + lines(64, " x r # 1/N"): {1, 64, 1},
		inBlocks + lines(40, " BL b# P 1"): {40, 1, 0}, inBlocks + lines(64, " BL a P 1/N"): {1, 64, 0}, inBlock + lines(40, " x# r 1"): {1, 1, 40}, inBlocks + lines(40, " BL b# P .5\n BL b# P .5"): {40, 2, 0},
		inScens + lines(64, " SC s# ROOT P 1/N"): {1, 64, 0}, inScen + lines(40, " x r# 1"): {1, 1, 40}, inScens + lines(60, " SC s# ROOT P 1/N\n"+strings.TrimRight(lines(40, " x r# 1"), "\n")): {1, 60, 40},
	} {
		got := get(text + "ENDATA")
		if got.e != api.OK || len(got.s.Groups) != counts[0] {
			t.Errorf("P10.2: Get(%.90q) is error %d, line %d, %d groups", text, got.e, got.line, len(got.s.Groups))
		}
		for _, g := range got.s.Groups {
			if len(g.Cases) != counts[1] || len(g.Cases[0].Es) != counts[2] {
				t.Errorf("P10.2: Get(%.90q) has %d cases, %d entries", text, len(g.Cases), len(g.Cases[0].Es))
			}
		}
	}
}

// scribble writes over all of an answer, its spare room too.
func scribble(s api.Stoch) {
	groups := s.Groups[:cap(s.Groups)]
	for i := range groups {
		cases := groups[i].Cases[:cap(groups[i].Cases)]
		for j := range cases {
			es := cases[j].Es[:cap(cases[j].Es)]
			for k := range es {
				es[k] = entry("scribbled", "scribbled", "scribbled")
			}
			cases[j] = one("scribbled")
		}
		groups[i] = group("scribbled")
	}
}

func someTexts() []string {
	return []string{inIndep + lines(40, " x# r 1 .5\n x# r 2 .5") + "ENDATA", inBlocks + lines(30, " BL a P 1/N\n x r 1\n x s #\n x t 3") + lines(30, " BL b# P 1\n y r #") + "ENDATA", inScens + lines(50, " SC s# ROOT P 1/N\n x r #\n y r 2\n z r 3\n x s 4\n x t 5") + "ENDATA", inScens + "ENDATA", inIndep + "ENDATA", inBlock + "ENDATA", inBlock, "", "\x00", inBlock + " x\n", inScen + " SC s ROOT P 1", inIndep + " x r 1 2\nENDATA", inIndep + " x r 1 1\n y r 1 1\n x r 1 1\nENDATA"}
}

// Who writes into one answer changes no other one, nor another list of it.
func TestAnswersAreNewMemory(t *testing.T) {
	for _, text := range someTexts() {
		want := get(text)
		first, second := get(text), get(text)
		scribble(first.s)
		if told(second.s) != told(want.s) {
			t.Errorf("P0.3: answers of Get(%.90q) share memory", text)
		}
		hold(t, text, want)
		for i := range second.s.Groups {
			g := &second.s.Groups[i]
			for j := range g.Cases {
				c := &g.Cases[j]
				if told(of(second.s.Kind, group(g.Name, *c))) != told(of(want.s.Kind, group(want.s.Groups[i].Name, want.s.Groups[i].Cases[j]))) {
					t.Fatalf("P0.3: lists of one answer of Get(%.90q) share memory", text)
				}
				scribble(of(0, group("", *c)))
				_ = append(c.Es, entry("scribbled", "", ""))
			}
			_ = append(g.Cases, one("scribbled"))
		}
	}
}

// No call hangs on those ahead of it.
func TestGetKeepsNothing(t *testing.T) {
	texts := someTexts()
	want := map[string]string{}
	for _, text := range texts {
		want[text] = get(text).text()
	}
	for range 3 {
		slices.Reverse(texts)
		for _, text := range texts {
			if got := get(text).text(); got != want[text] {
				t.Errorf("P0.5: Get(%.90q) is %.200s, and was %.200s", text, got, want[text])
			}
		}
	}
}

// Long texts end, at their first error.
func TestGetOfLongTexts(t *testing.T) {
	const size = 1 << 24
	for text, want := range map[string]answer{"\n": {line: 2501, e: api.ErrLimit}, "a": {line: 1, e: api.ErrLimit}, "STOCH T\n": {line: 2501, e: api.ErrLimit}, "\xff\n": {line: 1, e: api.ErrForm}, " x r 1\n": {line: 2501, e: api.ErrLimit}} {
		hold(t, strings.Repeat(text, size/len(text)), want)
	}
}
