package period_test

import (
	"regexp"
	"strings"
	"testing"

	"victualler/api"
)

// dice throws numbers that are the same in every run.
type dice uint64

func (d *dice) below(n int) int {
	*d = *d*6364136223846793005 + 1442695040888963407
	return int(*d>>33) % n
}

func (d *dice) of(texts ...string) string { return texts[d.below(len(texts))] }

// kinds are letters for what a line may be, the first that fits counts: a comment
// or a line without words (-), TIME, PERIODS, ENDATA (t, p, e; T, P, E: of another
// number of words; N: TIME's name is none), another Head (?), data (d; D: of another
// number of words; n: of a name that is none).
var kinds = []struct {
	letter string
	form   *regexp.Regexp
}{
	{"-", regexp.MustCompile(`^(\*.*|[ \t]*)$`)},
	{"t", regexp.MustCompile(`^TIME[ \t]+\S{1,20}[ \t]*$`)},
	{"N", regexp.MustCompile(`^TIME[ \t]+\S+[ \t]*$`)},
	{"T", regexp.MustCompile(`^TIME([ \t].*)?$`)},
	{"p", regexp.MustCompile(`^PERIODS([ \t]+\S+)?[ \t]*$`)},
	{"P", regexp.MustCompile(`^PERIODS[ \t].*$`)},
	{"e", regexp.MustCompile(`^ENDATA[ \t]*$`)},
	{"E", regexp.MustCompile(`^ENDATA[ \t].*$`)},
	{"?", regexp.MustCompile(`^[^ \t].*$`)},
	{"d", regexp.MustCompile(`^([ \t]+\S{1,20}){3}[ \t]*$`)},
	{"n", regexp.MustCompile(`^([ \t]+\S+){3}[ \t]*$`)},
	{"D", regexp.MustCompile(`^`)},
}

func kindOf(line string) string {
	for _, kind := range kinds {
		if kind.form.MatchString(line) {
			return kind.letter
		}
	}
	panic("the test is wrong")
}

// The beginnings of right files, and those whose last line has an error.
var (
	whole   = regexp.MustCompile(`^-*t-*p(-*d){0,20}-*e`)
	started = regexp.MustCompile(`^-*(t-*(p(-*d){0,20}-*)?)?$`)
	badForm = regexp.MustCompile(`^-*(T|t-*(P|p(-*d){0,20}-*[ED]))$`)
	badName = regexp.MustCompile(`^-*(N|t-*p(-*d){0,20}-*n)$`)
	tooMany = regexp.MustCompile(`^-*t-*p(-*d){21}$`)
)

// askedOf is what the chapter asks of a text whose lines are words.Get's: the
// error and its line, by the shortest beginning that begins no right file.
func askedOf(text string) (int, api.Errno) {
	file := ""
	for line := range strings.Lines(text) {
		file += kindOf(strings.TrimRight(line, "\n"))
		switch {
		case whole.MatchString(file):
			return 0, api.OK
		case started.MatchString(file):
			continue
		case badForm.MatchString(file):
			return len(file), api.ErrForm
		case badName.MatchString(file):
			return len(file), api.ErrName
		case tooMany.MatchString(file):
			return len(file), api.ErrLimit
		}
		return len(file), api.ErrOrder
	}
	return 0, api.ErrOrder
}

func (d *dice) word() string {
	return d.of("x", "y", "c", "one", "TIME", "PERIODS", "ENDATA", "T", "*", "~", "1", name20, "x", "y", "c")
}

// line throws a line: of those that the place asks, or any one.
func (d *dice) line(section int) string {
	blank := d.of(" ", "\t", "  ", " \t ")
	switch d.below(60) {
	case 0, 1:
		return d.of("", " ", "\t", "*", "* x y", "*ENDATA")
	case 2:
		return d.of("TIME", "PERIODS", "ENDATA", "TIME T", "NAME T", "WHAT", "PERIODS LP", "PERIODS a b", "ENDATA x", "TIME T U", "TIME "+long)
	case 3:
		return blank + strings.Join([]string{d.word(), d.word(), d.word(), d.word(), d.word()}[:1+d.below(5)], blank)
	case 4:
		return blank + d.of(long, d.word()) + blank + d.of(long, d.word()) + blank + d.of(long, d.word())
	}
	switch section {
	case 0:
		return "TIME" + blank + d.word() + d.of("", blank)
	case 1:
		return "PERIODS" + d.of("", blank, blank+d.word(), blank+long)
	case 2:
		return blank + d.word() + blank + d.word() + blank + d.word() + d.of("", blank)
	}
	return "ENDATA" + d.of("", blank)
}

func (d *dice) file() string {
	var lines []string
	for section, many := range []int{d.below(20) - 18, d.below(20) - 18, []int{d.below(4), d.below(25), 20, 21}[d.below(4)], d.below(10) - 8} {
		for range max(many, min(1, section+1)) {
			if many > 0 || section != 2 {
				lines = append(lines, d.line(section))
			}
		}
	}
	return strings.Join(lines, "\n") + d.of("", "\n")
}

func TestGetOfThrownFiles(t *testing.T) {
	d := dice(9)
	count := map[api.Errno]int{}
	for range 10000 {
		text := d.file()
		line, e := askedOf(text)
		count[e]++
		got := get(text)
		if got.line != line || got.e != e {
			t.Fatalf("P9.1: Get(%q) is %v, not line %d, error %d", text, got, line, e)
		}
		name, ps := told(text)
		if e != api.OK {
			name, ps = "", nil
		}
		hold(t, text, answer{name, ps, line, e})
	}
	for _, e := range []api.Errno{api.OK, api.ErrForm, api.ErrName, api.ErrOrder, api.ErrLimit} {
		if count[e] < 200 {
			t.Errorf("the test is wrong: error %d comes %d times", e, count[e])
		}
	}
}

// told is what a right file tells.
func told(text string) (name string, ps []api.Period) {
	for line := range strings.Lines(text) {
		ws := strings.Fields(line)
		switch kindOf(strings.TrimRight(line, "\n")) {
		case "t":
			name = ws[1]
		case "d":
			ps = append(ps, of(ws[0], ws[1], ws[2]))
		case "e":
			return name, ps
		}
	}
	return name, ps
}

// Any bytes: Get answers, and by the sentences where all lines are right ones.
func FuzzGet(f *testing.F) {
	d := dice(10)
	for range 50 {
		f.Add(d.file())
	}
	plain := regexp.MustCompile(`\A([\t\x20-\x7e]{0,200}\n)*([\t\x20-\x7e]{0,200})\z`)
	f.Fuzz(func(t *testing.T, text string) {
		got := get(text)
		if !plain.MatchString(text) || strings.Count(text, "\n") > 2000 {
			return
		}
		line, e := askedOf(text)
		if got.line != line || got.e != e {
			t.Errorf("P9.1: Get(%q) is %v, not line %d, error %d", text, got, line, e)
		}
	})
}
