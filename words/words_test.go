package words_test

import (
	"fmt"
	"reflect"
	"regexp"
	"slices"
	"strings"
	"testing"
	"unsafe"

	"victualler/api"
	"victualler/words"
)

// dice throws numbers that are the same in every run.
type dice uint64

func (d *dice) below(n int) int {
	*d = *d*6364136223846793005 + 1442695040888963407
	return int(*d>>33) % n
}

// The sentences, as expressions: what a line may be made of, and its words.
var (
	right = regexp.MustCompile(`\A[\t\x20-\x7e]*\r?\z`)
	word  = regexp.MustCompile(`[\x21-\x7e]+`)
	name  = regexp.MustCompile(`\A[\x21-\x7e]{1,20}\z`)
)

// answer is what Get answers.
type answer struct {
	lines []words.Line
	no    int
	e     api.Errno
}

func get(text string) answer {
	lines, no, e := words.Get(text)
	return answer{lines, no, e}
}

// asked is what the chapter asks of a text.
func asked(text string) answer {
	all := strings.Split(text, "\n")
	if all[len(all)-1] == "" {
		all = all[:len(all)-1]
	}
	var lines []words.Line
	for k, line := range all {
		if k >= 2500 || len(line) > 200 {
			return answer{nil, k + 1, api.ErrLimit}
		}
		if !right.MatchString(line) {
			return answer{nil, k + 1, api.ErrForm}
		}
		found := word.FindAllString(line, -1)
		if len(found) > 0 && line[0] != '*' {
			lines = append(lines, words.Line{No: k + 1, Head: line[0] != ' ' && line[0] != '\t', Words: found})
		}
	}
	return answer{lines, 0, api.OK}
}

// hold holds an answer of Get against the one that is wanted.
func hold(t *testing.T, text string, want answer) {
	t.Helper()
	got := get(text)
	if got.no != want.no || got.e != want.e || len(got.lines) != len(want.lines) || len(got.lines) > 0 && !reflect.DeepEqual(got.lines, want.lines) {
		t.Errorf("P7.1: Get(%.60q), %d bytes, is %.120v, not %.120v", text, len(text), fmt.Sprint(got), fmt.Sprint(want))
	}
	if got.e != api.OK && got.lines != nil {
		t.Errorf("P7.1, P0.2: Get(%.60q) has lines beside an error: %.120v", text, got.lines)
	}
}

// ask holds Get against the sentences.
func ask(t *testing.T, text string) {
	t.Helper()
	hold(t, text, asked(text))
}

func head(no int, of ...string) words.Line { return words.Line{No: no, Head: true, Words: of} }

func data(no int, of ...string) words.Line { return words.Line{No: no, Head: false, Words: of} }

func TestGetOfLines(t *testing.T) {
	for _, c := range []struct {
		text string
		want []words.Line
	}{
		{"", nil},
		{"a", []words.Line{head(1, "a")}},
		{"a\n", []words.Line{head(1, "a")}},
		{"a\n\n", []words.Line{head(1, "a")}},
		{"\na", []words.Line{head(2, "a")}},
		{"a\nb", []words.Line{head(1, "a"), head(2, "b")}},
		{"a\nb\n", []words.Line{head(1, "a"), head(2, "b")}},
		{"\n\n\na\n\n\nb", []words.Line{head(4, "a"), head(7, "b")}},
		// Words stand between blanks and tabs, one or more, at either end too.
		{"a b", []words.Line{head(1, "a", "b")}},
		{"a\tb", []words.Line{head(1, "a", "b")}},
		{"a \t \tb", []words.Line{head(1, "a", "b")}},
		{"a  ", []words.Line{head(1, "a")}},
		{"a\t", []words.Line{head(1, "a")}},
		{"a b a b", []words.Line{head(1, "a", "b", "a", "b")}},
		{"NAME  net-1 ", []words.Line{head(1, "NAME", "net-1")}},
		{"!\"#$%&'()*+,-./ 0123456789 :;<=>?@ AZ [\\]^_` az {|}~", []words.Line{head(1, "!\"#$%&'()*+,-./", "0123456789", ":;<=>?@", "AZ", "[\\]^_`", "az", "{|}~")}},
		// Head: the first byte.
		{" a", []words.Line{data(1, "a")}},
		{"\ta", []words.Line{data(1, "a")}},
		{" \t a\tb", []words.Line{data(1, "a", "b")}},
		{"a\n b\nc\n\td", []words.Line{head(1, "a"), data(2, "b"), head(3, "c"), data(4, "d")}},
		// Lines without a word.
		{"\n", nil},
		{"\n\n\n", nil},
		{" ", nil},
		{"\t", nil},
		{" \t \n\t \t\n", nil},
		{" \na", []words.Line{head(2, "a")}},
		// Comments: the first byte alone makes one.
		{"*", nil},
		{"*\n", nil},
		{"*a b", nil},
		{"**", nil},
		{"* a\nb", []words.Line{head(2, "b")}},
		{"a\n* b\n c\n*d\n", []words.Line{head(1, "a"), data(3, "c")}},
		{" *", []words.Line{data(1, "*")}},
		{"\t* a", []words.Line{data(1, "*", "a")}},
		{"a *", []words.Line{head(1, "a", "*")}},
		{"a*", []words.Line{head(1, "a*")}},
		// The carriage return of a line's end.
		{"\r", nil},
		{"\r\n", nil},
		{"\r\n\r\n\r", nil},
		{" \r", nil},
		{"*\r", nil},
		{"*a\r\nb\r\n", []words.Line{head(2, "b")}},
		{"a\r", []words.Line{head(1, "a")}},
		{"a\r\n", []words.Line{head(1, "a")}},
		{"a \r\n", []words.Line{head(1, "a")}},
		{" a b\r\nc\r", []words.Line{data(1, "a", "b"), head(2, "c")}},
		{"a\r\nb\nc\r\n", []words.Line{head(1, "a"), head(2, "b"), head(3, "c")}},
	} {
		hold(t, c.text, answer{c.want, 0, api.OK})
		ask(t, c.text)
	}
}

func TestGetOfWrongBytes(t *testing.T) {
	for text, no := range map[string]int{
		"\x00": 1, "\x01a": 1, "a\x1f": 1, "a\vb": 1, "a\fb": 1, "a\x7f": 1, "\x80": 1, "a\xff": 1, "é": 1, "a\u00a0b": 1, "a\u0085b": 1, "a\u2028b": 1, "\ufeffa": 1, "１": 1,
		"a\n\x00": 2, "a\n\x00\n": 2, "a\nb\nc\x7f\nd": 3, "\n\n\xff": 3,
		// Comments and lines without a word too.
		"*\x00": 1, "* é": 1, "*\x7f\n": 1, "a\n*\x1b\nb": 2, " \x00": 1, "\t\v\n": 1,
		// A carriage return elsewhere, and all but the last of several.
		"a\rb": 1, "\ra": 1, "a\r b": 1, "a\r ": 1, "a\r\t\n": 1, "\r\r": 1, "a\r\r": 1, "a\r\r\n": 1, "\r\r\n": 1, "*\r\r": 1, "*\rb": 1, "\r*": 1, "a\r\n\rb": 2, "\n\r": 0, "a\n\r\r\n": 2,
		// The first of several.
		"a\x00\nb\xff\n\r\r": 1, "a\nb\xff\n\r\r": 2, "a\nb\n\r\r": 3,
	} {
		if want := asked(text); want.no != no || (want.e == api.ErrForm) != (no > 0) {
			t.Fatalf("the test is wrong: %q", text)
		}
		ask(t, text)
	}
}

// Every byte at every kind of place.
func TestGetOfEveryByte(t *testing.T) {
	for k := range 256 {
		b := string([]byte{byte(k)})
		for _, form := range []string{"?", "?a", "a?", "a?b", "a ? b", " ?", "? ", "\t?\t", "*?", "*?*", " *?", "?*", "a?\n", "a?\r", "a?\r\n", "a\r?", "a\r?\n", "\n?", "a\n?\nb", "??", "a??b", "\n\na b?\n", strings.Repeat("x", 199) + "?", strings.Repeat("x", 200) + "?"} {
			ask(t, strings.ReplaceAll(form, "?", b))
		}
	}
}

func TestGetOfAllShortTexts(t *testing.T) {
	few := "a* \t\r\n\x00\x7f"
	texts, start := []string{""}, 0
	for range 6 {
		end := len(texts)
		for ; start < end; start++ {
			for k := range len(few) {
				texts = append(texts, texts[start]+few[k:k+1])
			}
		}
	}
	for _, text := range texts {
		ask(t, text)
	}
}

func TestGetOfThrownTexts(t *testing.T) {
	d := dice(7)
	pieces := []string{"a", "RHS", "x1", "-2.5e3", "'MARKER'", "~", "!", " ", "  ", "\t", " \t", "\n", "\r\n", "\n\n", "\n ", "\n\t", "\n*", "*"}
	wrong := []string{"\r", "\x00", "\x1f", "\x7f", "\x80", "é", "\v", strings.Repeat("y", 190), "\r\r\n"}
	for range 20000 {
		var text strings.Builder
		for range d.below(40) {
			if d.below(60) == 0 {
				text.WriteString(wrong[d.below(len(wrong))])
			}
			text.WriteString(pieces[d.below(len(pieces))])
		}
		ask(t, text.String())
	}
}

// 200 bytes are counted of all that stands ahead of the newline.
func TestGetAtALinesLength(t *testing.T) {
	for n := 195; n <= 205; n++ {
		for _, line := range []string{
			strings.Repeat("x", n), strings.Repeat(" ", n), strings.Repeat("\t", n), "*" + strings.Repeat("x", n-1), "*" + strings.Repeat(" ", n-1),
			strings.Repeat("x ", n)[:n], strings.Repeat(" x", n)[:n], "a" + strings.Repeat(" ", n-2) + "b", "a" + strings.Repeat(" ", n-1), strings.Repeat(" ", n-1) + "b",
			strings.Repeat("x", n-1) + "\r", strings.Repeat(" ", n-1) + "\r", "*" + strings.Repeat("x", n-2) + "\r",
		} {
			if len(line) != n {
				t.Fatalf("the test is wrong: %q has %d bytes", line, len(line))
			}
			for _, form := range []string{"?", "?\n", "a\n?", "a\n?\n", "* a\n\n?\n b\n"} {
				text := strings.Replace(form, "?", line, 1)
				want, no := asked(text), strings.Count(form[:strings.Index(form, "?")], "\n")+1
				if (want.e == api.ErrLimit && want.no == no) != (n > 200) {
					t.Fatalf("the test is wrong: a line of %d bytes: %v", n, want.e)
				}
				ask(t, text)
			}
		}
	}
	// The newline itself does not count, whatever stands behind it.
	full := strings.Repeat("x", 200)
	hold(t, full+"\n"+full+"\n", answer{[]words.Line{head(1, full), head(2, full)}, 0, api.OK})
	hold(t, full[1:]+"\r\n "+full[1:], answer{[]words.Line{head(1, full[1:]), data(2, full[1:])}, 0, api.OK})
	hold(t, full+"\r\n", answer{nil, 1, api.ErrLimit})
}

// All lines count: those of words, comments, those without a word.
func TestGetAtTheNumberOfLines(t *testing.T) {
	for _, line := range []string{"\n", "a\n", " a b\n", "*\n", "* x\n", " \n", "\t\n", "\r\n", "a\r\n"} {
		for n := 2498; n <= 2502; n++ {
			many := strings.Repeat(line, n)
			for _, text := range []string{many, many + "a", many + " b\n", many + "*", many + " ", many + "\r", strings.TrimSuffix(many, "\n")} {
				ask(t, text)
			}
			if got := get(many); (got.e == api.ErrLimit && got.no == 2501) != (n > 2500) || n <= 2500 && got.e != api.OK {
				t.Errorf("P7.1: Get of %d lines %q is %d, %d", n, line, got.no, got.e)
			}
		}
	}
	full := strings.Repeat("x", 200)
	got := get(strings.Repeat(full+"\n", 2500))
	if got.e != api.OK || got.no != 0 || len(got.lines) != 2500 {
		t.Fatalf("P7.1: Get of 2500 lines of 200 bytes: %d lines, %d, %d", len(got.lines), got.no, got.e)
	}
	for k, line := range got.lines {
		if !reflect.DeepEqual(line, head(k+1, full)) {
			t.Fatalf("P7.1: line %d of 2500 is %.60v", k+1, line)
		}
	}
}

// Line by line, and in one line ErrLimit ahead of ErrForm.
func TestGetsFirstError(t *testing.T) {
	long := strings.Repeat("x", 201)
	lines := func(n int) string { return strings.Repeat("a\n", n) }
	for _, c := range []struct {
		text string
		no   int
		e    api.Errno
	}{
		{long, 1, api.ErrLimit}, {long + "\x00", 1, api.ErrLimit}, {"\x00" + long, 1, api.ErrLimit}, {strings.Repeat("\x00", 201), 1, api.ErrLimit}, {strings.Repeat("\x00", 200), 1, api.ErrForm},
		{"*" + long + "é", 1, api.ErrLimit}, {strings.Repeat("é", 100), 1, api.ErrForm}, {strings.Repeat("é", 101), 1, api.ErrLimit}, {strings.Repeat("x", 200) + "\r\r\n", 1, api.ErrLimit}, {strings.Repeat("x", 198) + "\r\r\n", 1, api.ErrForm},
		{"\x00\n" + long, 1, api.ErrForm}, {long + "\n\x00", 1, api.ErrLimit}, {"a\n\x00\n" + long, 2, api.ErrForm}, {"a\n" + long + "\n\x00", 2, api.ErrLimit},
		{lines(2500) + "a", 2501, api.ErrLimit}, {lines(2500) + "\x00", 2501, api.ErrLimit}, {lines(2500) + long, 2501, api.ErrLimit}, {lines(2500) + "\n\x00", 2501, api.ErrLimit}, {lines(9000), 2501, api.ErrLimit},
		{lines(2499) + "\x00\na", 2500, api.ErrForm}, {lines(2499) + long + "\na", 2500, api.ErrLimit}, {lines(2499) + "\x00", 2500, api.ErrForm}, {lines(2499) + long, 2500, api.ErrLimit},
		{"\x00\n" + lines(2600), 1, api.ErrForm}, {long + "\n" + lines(2600), 1, api.ErrLimit}, {lines(3) + "é\n" + lines(2600), 4, api.ErrForm}, {lines(2600) + "\x00", 2501, api.ErrLimit},
	} {
		hold(t, c.text, answer{nil, c.no, c.e})
	}
}

// Long texts end soon, at their first error.
func TestGetOfLongTexts(t *testing.T) {
	const long = 1 << 25
	for text, want := range map[string]answer{
		"\n": {nil, 2501, api.ErrLimit}, "a\n": {nil, 2501, api.ErrLimit}, "a": {nil, 1, api.ErrLimit}, " ": {nil, 1, api.ErrLimit}, "*": {nil, 1, api.ErrLimit}, "\x00": {nil, 1, api.ErrLimit}, "\xff\n": {nil, 1, api.ErrForm}, "\r": {nil, 1, api.ErrLimit}, "\r\n": {nil, 2501, api.ErrLimit},
	} {
		hold(t, strings.Repeat(text, long/len(text)), want)
	}
}

// No word is too long or too short for Get, nor are they too many: a line's
// length alone binds them.
func TestGetOfManyWords(t *testing.T) {
	var ones []string
	for range 100 {
		ones = append(ones, "z")
	}
	hold(t, strings.Join(ones, " "), answer{[]words.Line{head(1, ones...)}, 0, api.OK})
	hold(t, "\t"+strings.Join(ones, "\t")+"\n", answer{[]words.Line{data(1, ones...)}, 0, api.OK})
	for n := 1; n <= 200; n++ {
		hold(t, strings.Repeat("w", n), answer{[]words.Line{head(1, strings.Repeat("w", n))}, 0, api.OK})
	}
}

// scribble writes over all that an answer has, its spare room too.
func scribble(lines []words.Line) {
	for k := range lines {
		all := lines[k].Words[:cap(lines[k].Words)]
		for i := range all {
			all[i] = "scribbled"
		}
	}
	all := lines[:cap(lines)]
	for k := range all {
		all[k] = data(-1, "scribbled")
	}
}

// Who writes into one answer changes no other one, nor into one line another.
func TestAnswersAreNewMemory(t *testing.T) {
	text := "NAME x\nROWS\n N  cost\n\tL  r1\r\n* no\n x cost 1 r1 2\nENDATA"
	want := asked(text)
	first, second := get(text), get(text)
	scribble(first.lines)
	if !reflect.DeepEqual(second, want) {
		t.Errorf("P0.3: two answers share memory: %v", second)
	}
	hold(t, text, want)
	for k := range second.lines {
		fresh := get(text)
		own := fresh.lines[k].Words
		for i := range own[:cap(own)] {
			own[:cap(own)][i] = "scribbled"
		}
		_ = append(own, "scribbled")
		for i, line := range fresh.lines {
			if i != k && !reflect.DeepEqual(line, want.lines[i]) {
				t.Errorf("P0.3: lines %d and %d share memory", k, i)
			}
		}
	}
}

// A word's bytes are not the text's: who keeps a word does not keep the text.
func TestWordsAreNotThePiecesOfTheText(t *testing.T) {
	text := strings.Clone("ROWS\n N cost\n" + strings.Repeat("a", 200))
	start := uintptr(unsafe.Pointer(unsafe.StringData(text)))
	for _, line := range get(text).lines {
		for _, w := range line.Words {
			if at := uintptr(unsafe.Pointer(unsafe.StringData(w))); at >= start && at < start+uintptr(len(text)) {
				t.Errorf("P0.3: the word %.20q is a piece of the text", w)
			}
		}
	}
}

// No call hangs on those ahead of it.
func TestCallsKeepNothing(t *testing.T) {
	texts := []string{"a b\n c", "", "\x00", strings.Repeat("\n", 2501), " d\n*\ne\r\n", strings.Repeat("x", 201)}
	for range 3 {
		for _, text := range texts {
			ask(t, text)
		}
		slices.Reverse(texts)
	}
}

func isName(t *testing.T, s string, want bool) {
	t.Helper()
	if words.Name(s) != want {
		t.Errorf("P7.1: Name(%.60q), %d bytes, is not %v", s, len(s), want)
	}
}

func TestName(t *testing.T) {
	for _, s := range []string{"a", "!", "~", "*", "RHS", "'MARKER'", "x.1", "-", "1", "a*b", "\"", "ROOT", "\x21\x7e", "!\"#$%&'()*+,-./01234", "56789:;<=>?@ABCDEFGH", "IJKLMNOPQRSTUVWXYZ[\\", "]^_`abcdefghijklmnop", "qrstuvwxyz{|}~"} {
		isName(t, s, true)
	}
	for _, s := range []string{"", " ", "\t", "\n", "\r", "a b", " a", "a ", "a\t", "a\n", "a\r", "\x00", "a\x00", "\x1f", "\x20", "\x7f", "a\x7f", "\x80", "\xff", "é", "aé", "１", "\u00a0", "a\u2028", "\xa1", "\xfe"} {
		isName(t, s, false)
	}
}

func TestNameAtItsLength(t *testing.T) {
	for n := range 300 {
		for _, of := range []string{"x", "!", "~"} {
			isName(t, strings.Repeat(of, n), 1 <= n && n <= 20)
		}
	}
	// Bytes are counted, and all of them are looked at.
	for n := 1; n <= 22; n++ {
		for k := range n {
			for b := range 256 {
				s := strings.Repeat("x", k) + string([]byte{byte(b)}) + strings.Repeat("x", n-1-k)
				isName(t, s, name.MatchString(s))
			}
		}
	}
	for _, of := range []string{"x", " ", "\xff", "é"} {
		isName(t, strings.Repeat(of, 1<<24), false)
	}
}

func TestNameOfAllShortTexts(t *testing.T) {
	for k := range 1 << 16 {
		high, low := byte(k>>8), byte(k)
		want := func(b byte) bool { return b >= '!' && b <= '~' }
		isName(t, string([]byte{low}), want(low))
		isName(t, string([]byte{high, low}), want(high) && want(low))
	}
}
