package period_test

import (
	"fmt"
	"reflect"
	"slices"
	"strings"
	"testing"

	"victualler/api"
	"victualler/period"
)

// A file, section by section; each is what stands ahead of what is to be tried.
const (
	inTime    = "TIME T\n"
	inPeriods = inTime + "PERIODS\n"
	behindTwo = inPeriods + " x c one\n y r two\n"
	long      = "a23456789b123456789c1" // no Name
	name20    = "a23456789b123456789c"  // the longest Name
)

// answer is what Get answers.
type answer struct {
	name string
	ps   []api.Period
	line int
	e    api.Errno
}

func get(text string) answer {
	name, ps, line, e := period.Get(text)
	return answer{name, ps, line, e}
}

// hold holds an answer of Get against the one that is wanted.
func hold(t *testing.T, text string, want answer) {
	t.Helper()
	got := get(text)
	if got.name != want.name || got.line != want.line || got.e != want.e || !slices.Equal(got.ps, want.ps) {
		t.Errorf("P9.1: Get(%.300q) is %v, not %v", text, got, want)
	}
	if got.e != api.OK && got.ps != nil {
		t.Errorf("P9.1: Get(%.300q) has a list that is not nil beside error %d", text, got.e)
	}
}

// wrong holds that Get finds e in the last line of text, whatever stands behind.
func wrong(t *testing.T, text string, e api.Errno) {
	t.Helper()
	no := strings.Count(text, "\n") + 1
	texts := []string{text, text + "\n", text + "\nENDATA\n", text + "\nWHAT\n x\n", text + " \t\r\n\n* z\nPERIODS\n", text + "\nTIME " + long}
	texts = append(texts, strings.ReplaceAll(text, "\n", "\r\n"), strings.ReplaceAll(text, "\n ", "\n\t \t")+"\t", strings.ReplaceAll(text, " ", "  "))
	for _, text := range texts {
		hold(t, text, answer{line: no, e: e})
	}
	// Lines that are passed over count as lines.
	hold(t, "* z\n\n \t \n"+text, answer{line: no + 3, e: e})
}

// right holds that Get reads text, which lacks its ENDATA, as want.
func right(t *testing.T, text, name string, ps ...api.Period) {
	t.Helper()
	want := answer{name: name, ps: ps}
	for _, end := range []string{"ENDATA", "ENDATA\n", "ENDATA\r\n", "ENDATA \t\n", "*ENDATA\n\n \t\nENDATA", "ENDATA\nTIME T\nWHAT\n x\nENDATA x\n", "ENDATA\n x y z\n", "ENDATA\nENDATA\n"} {
		hold(t, text+end, want)
	}
	whole := text + "ENDATA\n"
	for _, same := range []string{"*\n\n \t\n" + whole, strings.ReplaceAll(whole, "\n", "\r\n"), strings.ReplaceAll(whole, "\n", "\n\n* z\n"), strings.ReplaceAll(whole, " ", "\t "), strings.ReplaceAll(whole, "\n", " \t\n")} {
		hold(t, same, want)
	}
	for _, none := range []string{"", "\n", "* ENDATA\n", "*ENDATA"} {
		hold(t, text+none, answer{e: api.ErrOrder})
	}
}

func of(col, row, name string) api.Period { return api.Period{Col: col, Row: row, Name: name} }

func TestGet(t *testing.T) {
	right(t, inPeriods, "T")
	right(t, behindTwo, "T", of("x", "c", "one"), of("y", "r", "two"))
	right(t, inPeriods+" x c one\n", "T", of("x", "c", "one"))
	right(t, inPeriods+" x c one\n y r two\n z s three\n", "T", of("x", "c", "one"), of("y", "r", "two"), of("z", "s", "three"))
	right(t, inPeriods+" y r two\n x c one\n", "T", of("y", "r", "two"), of("x", "c", "one"))
	right(t, "TIME\tnet-1\nPERIODS\n\tx\tc\tone\n", "net-1", of("x", "c", "one"))
	// What Get reads may still not be: May asks that.
	right(t, inPeriods+" x c one\n x c one\n x c one\n", "T", of("x", "c", "one"), of("x", "c", "one"), of("x", "c", "one"))
	// Names that are words elsewhere.
	right(t, "TIME TIME\nPERIODS PERIODS\n PERIODS TIME ENDATA\n ENDATA ENDATA ENDATA\n TIME T T\n", "TIME", of("PERIODS", "TIME", "ENDATA"), of("ENDATA", "ENDATA", "ENDATA"), of("TIME", "T", "T"))
	right(t, "TIME ENDATA\nPERIODS ENDATA\n * * *\n RHS 'MARKER' 1/2\n", "ENDATA", of("*", "*", "*"), of("RHS", "'MARKER'", "1/2"))
	right(t, "TIME *\nPERIODS *\n x X xX\n", "*", of("x", "X", "xX"))
	right(t, "TIME "+name20+"\nPERIODS\n "+name20+" "+name20+" "+name20+"\n", name20, of(name20, name20, name20))
	right(t, "TIME ~\nPERIODS\n ! ~ !~\n", "~", of("!", "~", "!~"))
}

// PERIODS may have one word more, and any.
func TestGetsWordOfPeriods(t *testing.T) {
	for _, word := range []string{"", "LP", "IMPLICIT", "EXPLICIT", "PERIODS", "ENDATA", "*", "~", "1", name20, long, strings.Repeat("w", 190)} {
		right(t, strings.TrimSpace("TIME T\nPERIODS "+word)+"\n x c one\n", "T", of("x", "c", "one"))
		wrong(t, "TIME T\nPERIODS z "+word[:min(len(word), 90)]+" z", api.ErrForm)
	}
}

// sections are what stands ahead, and the one Head that may follow.
func sections() []struct{ ahead, next string } {
	return []struct{ ahead, next string }{{"", "TIME U"}, {inTime, "PERIODS"}, {inTime, "PERIODS LP"}, {inPeriods, "ENDATA"}, {"TIME T\nPERIODS LP\n", "ENDATA"}, {behindTwo, "ENDATA"}}
}

func TestGetsHeads(t *testing.T) {
	for _, s := range sections() {
		for _, head := range []string{"TIME U", "PERIODS", "PERIODS LP", "ENDATA"} {
			word := strings.Fields(head)[0]
			if strings.HasPrefix(s.next, word) {
				if head != "ENDATA" {
					hold(t, s.ahead+head+"\n", answer{e: api.ErrOrder})
				}
				continue
			}
			for _, more := range []string{"", " z", " z z", " " + long} {
				wrong(t, s.ahead+head+more, api.ErrOrder)
				wrong(t, s.ahead+word+more, api.ErrOrder)
			}
		}
		for _, head := range []string{"time T", "Time T", "TIMES T", "TIME.", "periods", "Periods LP", "PERIOD", "PERIODS*", "endata", "END", "ENDATA.", "-ENDATA", "NAME T", "ROWS", "COLUMNS", "RHS", "RANGES", "BOUNDS", "STOCH T", "x", "x c one", "1", "'MARKER'", long} {
			wrong(t, s.ahead+head, api.ErrOrder)
			wrong(t, s.ahead+head+" a b c d e", api.ErrOrder)
		}
	}
}

// Of a Head ErrOrder, then the number of its words, then its name.
func TestGetsHeadsWords(t *testing.T) {
	for text, e := range map[string]api.Errno{
		"TIME": api.ErrForm, "TIME T U": api.ErrForm, "TIME T U V": api.ErrForm, "TIME " + long + " U": api.ErrForm, "TIME T " + long: api.ErrForm,
		"TIME " + long: api.ErrName, "TIME " + strings.Repeat("x", 190): api.ErrName,
		inTime + "PERIODS LP z": api.ErrForm, inTime + "PERIODS LP z z": api.ErrForm,
		inPeriods + "ENDATA x": api.ErrForm, inPeriods + "ENDATA " + long: api.ErrForm, behindTwo + "ENDATA x": api.ErrForm, behindTwo + "ENDATA x y z": api.ErrForm,
		inTime + "TIME": api.ErrOrder, inTime + "TIME " + long: api.ErrOrder, "PERIODS a b": api.ErrOrder, "ENDATA x": api.ErrOrder, inTime + "ENDATA x y": api.ErrOrder, inPeriods + "PERIODS a b": api.ErrOrder, behindTwo + "TIME": api.ErrOrder, behindTwo + "TIME a b": api.ErrOrder,
	} {
		wrong(t, text, e)
	}
}

// A line's first byte tells whether it is a Head: one with a blank ahead is none.
func TestGetOfDataElsewhere(t *testing.T) {
	for _, ahead := range []string{"", inTime} {
		for _, data := range []string{"x c one", "x", "x c", "x c one two", "TIME T", "PERIODS", "PERIODS LP", "ENDATA", long + " c one", "a b c d e f"} {
			wrong(t, ahead+" "+data, api.ErrOrder)
			wrong(t, ahead+"\t"+data, api.ErrOrder)
		}
	}
	for _, data := range []string{" TIME T", " PERIODS", " ENDATA", " PERIODS LP"} {
		wrong(t, inPeriods+data, api.ErrForm)
	}
}

func TestGetWithoutEnd(t *testing.T) {
	for _, text := range []string{"", "\n", "\n\n\n", " ", "*", "* TIME T\n", "\r\n", "TIME T", inTime, inTime + "* x\n", "TIME T\nPERIODS", inPeriods, inPeriods + "\n \n*\n", behindTwo, behindTwo + "*ENDATA\n", strings.Repeat("\n", 2500)} {
		hold(t, text, answer{e: api.ErrOrder})
	}
}

func TestGetsWrongPeriods(t *testing.T) {
	for _, ahead := range []string{inPeriods, "TIME T\nPERIODS LP\n", behindTwo} {
		// Another number of words counts ahead of the names.
		for _, data := range []string{"x", "x c", "x c one two", "x c one two three", "a b c d e f g", long, long + " c", "x " + long, long + " c one two", "x " + long + " one two", "x c one " + long, "x c one *"} {
			wrong(t, ahead+" "+data, api.ErrForm)
			wrong(t, ahead+"\t"+data, api.ErrForm)
		}
		for _, data := range []string{long + " c one", "x " + long + " one", "x c " + long, long + " " + long + " " + long, strings.Repeat("x", 150) + " c one", "x " + strings.Repeat("x", 150) + " one", "x c " + strings.Repeat("x", 150)} {
			wrong(t, ahead+" "+data, api.ErrName)
			wrong(t, ahead+"\t"+data, api.ErrName)
		}
	}
}

// some are n lines of periods, and what they tell.
func some(n int) (lines string, ps []api.Period) {
	for k := range n {
		lines += fmt.Sprintf(" x%d c%d p%d\n", k, k, k)
		ps = append(ps, of(fmt.Sprint("x", k), fmt.Sprint("c", k), fmt.Sprint("p", k)))
	}
	return lines, ps
}

func TestGetAtTheNumberOfPeriods(t *testing.T) {
	for n := range 21 {
		lines, ps := some(n)
		right(t, inPeriods+lines, "T", ps...)
		right(t, "TIME T\nPERIODS LP\n"+strings.ReplaceAll(lines, "\n", "\n* z\n\n"), "T", ps...)
	}
	full, _ := some(20)
	for _, data := range []string{"x c one", "x0 c0 p0", "x19 c19 p19", name20 + " " + name20 + " " + name20} {
		wrong(t, inPeriods+full+" "+data, api.ErrLimit)
		wrong(t, "TIME T\nPERIODS LP\n"+full+" "+data, api.ErrLimit)
		wrong(t, inPeriods+full+"* z\n\n "+data, api.ErrLimit)
	}
	many, _ := some(2000)
	hold(t, inPeriods+many+"ENDATA\n", answer{line: 23, e: api.ErrLimit})
	// The line's own errors are named ahead of it.
	wrong(t, inPeriods+full+" x c", api.ErrForm)
	wrong(t, inPeriods+full+" x c one two", api.ErrForm)
	wrong(t, inPeriods+full+" "+long+" c one", api.ErrName)
	wrong(t, inPeriods+full+" x c "+long, api.ErrName)
	wrong(t, inPeriods+full+"PERIODS", api.ErrOrder)
	wrong(t, inPeriods+full+"ENDATA x", api.ErrForm)
}

// What is wrong with the lines as such counts ahead of all, wherever it stands.
func TestGetOfWrongLines(t *testing.T) {
	for _, ahead := range []string{"", "WHAT\n", " x\n", "TIME\n", inTime, inPeriods, behindTwo, inPeriods + "ENDATA\n", behindTwo + "ENDATA\n", behindTwo + "ENDATA x\n x\n"} {
		no := strings.Count(ahead, "\n") + 1
		for line, e := range map[string]api.Errno{"\x00": api.ErrForm, " x\x7f c one": api.ErrForm, "*\x80": api.ErrForm, "é": api.ErrForm, " x\r c one": api.ErrForm, strings.Repeat("x", 201): api.ErrLimit, strings.Repeat(" ", 201): api.ErrLimit, "*" + strings.Repeat("\x00", 200): api.ErrLimit} {
			for _, behind := range []string{"", "\n", "\nWHAT\nENDATA\n", "\n\x00"} {
				hold(t, ahead+line+behind, answer{line: no, e: e})
			}
		}
		hold(t, ahead+strings.Repeat("\n", 2500-no+1), get(ahead))
		hold(t, ahead+strings.Repeat("\n", 2500-no+1)+"*", answer{line: 2501, e: api.ErrLimit})
		hold(t, ahead+strings.Repeat("*\n", 9000), answer{line: 2501, e: api.ErrLimit})
	}
}

func TestGetGoesLineByLine(t *testing.T) {
	full, _ := some(20)
	for text, want := range map[string]answer{
		"TIME\nTIME T":                                              {line: 1, e: api.ErrForm},
		"TIME " + long + "\nWHAT":                                   {line: 1, e: api.ErrName},
		inTime + "WHAT\nPERIODS a b":                                {line: 2, e: api.ErrOrder},
		inPeriods + " x\n " + long + " c one\nWHAT":                 {line: 3, e: api.ErrForm},
		inPeriods + " " + long + " c one\n x\nWHAT":                 {line: 3, e: api.ErrName},
		inPeriods + "WHAT\n x\n " + long + " c one":                 {line: 3, e: api.ErrOrder},
		inPeriods + full + " x c one\n x\nWHAT\n":                   {line: 23, e: api.ErrLimit},
		inPeriods + full + " x\n x c one\nWHAT\n":                   {line: 23, e: api.ErrForm},
		inPeriods + full + "ENDATA\n x c one\n x\nWHAT\nTIME\n":     {name: "T", ps: get(inPeriods + full + "ENDATA").ps},
		behindTwo + "ENDATA\n x\n" + strings.Repeat(" x c p\n", 30): {name: "T", ps: get(behindTwo + "ENDATA").ps},
	} {
		hold(t, text, want)
	}
}

// Who writes into one answer changes no other one.
func TestAnswersAreNewMemory(t *testing.T) {
	for n := range 21 {
		lines, ps := some(n)
		text := inPeriods + lines + "ENDATA\n"
		first, second := get(text), get(text)
		all := first.ps[:cap(first.ps)]
		for k := range all {
			all[k] = of("scribbled", "scribbled", "scribbled")
		}
		if !slices.Equal(second.ps, ps) {
			t.Errorf("P0.3: two answers share memory: %v", second.ps)
		}
		hold(t, text, answer{name: "T", ps: ps})
	}
}

// No call hangs on those ahead of it.
func TestGetKeepsNothing(t *testing.T) {
	full, _ := some(20)
	texts := []string{inPeriods + full + "ENDATA", behindTwo, behindTwo + "ENDATA", "", "TIME U\nPERIODS LP\nENDATA", inPeriods + full + " x c p\n", "TIME " + long, " x c p\n", "\x00", inPeriods + " x\n"}
	want := map[string]answer{}
	for _, text := range texts {
		want[text] = get(text)
	}
	for range 3 {
		slices.Reverse(texts)
		for _, text := range texts {
			if got := get(text); !reflect.DeepEqual(got, want[text]) {
				t.Errorf("P0.5: Get(%.90q) is %v, and was %v", text, got, want[text])
			}
		}
	}
}

// Long texts end, at their first error.
func TestGetOfLongTexts(t *testing.T) {
	const size = 1 << 24
	for text, want := range map[string]answer{"\n": {line: 2501, e: api.ErrLimit}, "a": {line: 1, e: api.ErrLimit}, "TIME T\n": {line: 2501, e: api.ErrLimit}, "\xff\n": {line: 1, e: api.ErrForm}, " x c p\n": {line: 2501, e: api.ErrLimit}} {
		hold(t, strings.Repeat(text, size/len(text)), want)
	}
}
