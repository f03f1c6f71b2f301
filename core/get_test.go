package core_test

import (
	"fmt"
	"maps"
	"reflect"
	"slices"
	"strings"
	"testing"

	"victualler/api"
	"victualler/core"
)

// A file, section by section; each is what stands ahead of what is to be tried.
const (
	inName    = "NAME T\n"
	inRows    = inName + "ROWS\n N c\n L r\n G s\n E t\n"
	inColumns = inRows + "COLUMNS\n x c 1 r 2\n"
	inRHS     = inColumns + " y s 1\nRHS\n"
	inRanges  = inRHS + "RANGES\n"
	inBounds  = inRHS + "BOUNDS\n"
	long      = "a23456789b123456789c1" // no Name
	name20    = "a23456789b123456789c"  // the longest Name
	number40  = "1111111111222222222233333333334444444444"
)

// wrong holds that Get finds e in the last line of text, whatever stands behind.
func wrong(t *testing.T, text string, e api.Errno) {
	t.Helper()
	wrongAt(t, text, strings.Count(text, "\n")+1, e)
}

func wrongAt(t *testing.T, text string, no int, e api.Errno) {
	t.Helper()
	texts := []string{text, text + "\n", text + "\nENDATA\n", text + "\nWHAT\n x\n", text + " \t\r\n\n* z\nRHS\n"}
	texts = append(texts, strings.ReplaceAll(text, "\n", "\r\n"), strings.ReplaceAll(text, "\n ", "\n\t \t")+"\t", strings.ReplaceAll(text, " ", "  "))
	for _, text := range texts {
		c, line, got := core.Get(text)
		if got != e || line != no {
			t.Errorf("P8.2: Get(..%.90q) is line %d, error %d, not %d, %d", text[max(0, len(text)-90):], line, got, no, e)
		}
		if !reflect.DeepEqual(c, api.Core{}) {
			t.Errorf("P8.2, P0.2: Get(..%.90q) has %v beside an error", text[max(0, len(text)-90):], c)
		}
	}
	// Lines that are passed over count as lines.
	if _, line, got := core.Get("* z\n\n \t \n" + text); got != e || line != no+3 {
		t.Errorf("P8.2: Get(..%.90q) behind three lines is line %d, error %d, not %d, %d", text[max(0, len(text)-90):], line, got, no+3, e)
	}
}

// right holds that Get reads text, which lacks its ENDATA, as want.
func right(t *testing.T, text, want string) api.Core {
	t.Helper()
	if !strings.HasSuffix(text, "\n") {
		text += "\n"
	}
	c, line, e := core.Get(text + "ENDATA")
	if got := fmt.Sprint(c); e != api.OK || line != 0 || got != want {
		t.Errorf("P8.2: Get(%.400q) is line %d, error %d,\n%s, not\n%s", text, line, e, got, want)
	}
	if may := core.May(c); e == api.OK && may != api.OK {
		t.Errorf("P8.1: May of what Get answered, %v, is %d", c, may)
	}
	for _, same := range []string{text + "ENDATA\n", text + "ENDATA \t\r\n", "*\n\n" + text + "\n* x\nENDATA\n x\nNAME y\nWHAT", strings.ReplaceAll(text, "\n", "\r\n") + "ENDATA", strings.ReplaceAll(text, " ", "\t ") + "ENDATA"} {
		if d, line, e := core.Get(same); e != api.OK || line != 0 || !reflect.DeepEqual(bare(d), bare(c)) {
			t.Errorf("P8.2: Get(%.400q) is line %d, error %d, %v", same, line, e, d)
		}
	}
	wrongEnd(t, text)
	return c
}

// wrongEnd holds that a text that is right misses its ENDATA.
func wrongEnd(t *testing.T, text string) {
	t.Helper()
	for _, end := range []string{"", "\n", "* ENDATA\n", "*ENDATA"} {
		if c, line, e := core.Get(text + end); e != api.ErrOrder || line != 0 || !reflect.DeepEqual(c, api.Core{}) {
			t.Errorf("P8.2: Get(%.400q), without ENDATA, is line %d, error %d, %v", text+end, line, e, c)
		}
	}
}

func TestGet(t *testing.T) {
	right(t, "NAME T\nROWS\n N c\nCOLUMNS\nRHS\n", "{T c [] []}")
	right(t, "NAME T\nROWS\n N c\nCOLUMNS\nRHS\nRANGES\nBOUNDS\n", "{T c [] []}")
	right(t, "NAME\tT\nROWS\n E e\n N c\n L l\n G g\nCOLUMNS\nRHS\n", "{T c [{e 2 [] 0 } {l 1 [] 0 } {g 3 [] 0 }] []}")
	right(t, inRHS, "{T c [{r 1 [{0 2}] 0 } {s 3 [{1 1}] 0 } {t 2 [] 0 }] [{x 0  1 false} {y 0  0 false}]}")
	right(t, inRHS+" R t 1/2 r -3\n R s 0\n", "{T c [{r 1 [{0 2}] -3 } {s 3 [{1 1}] 0 } {t 2 [] 1/2 }] [{x 0  1 false} {y 0  0 false}]}")
	right(t, inRanges+" R t -1/2 r 3\n R s 0\n", "{T c [{r 1 [{0 2}] 0 3} {s 3 [{1 1}] 0 0} {t 2 [] 0 -1/2}] [{x 0  1 false} {y 0  0 false}]}")
	right(t, inRHS+" R r 4\nRANGES\n R r 5\nBOUNDS\n UP B x 6\n", "{T c [{r 1 [{0 2}] 4 5} {s 3 [{1 1}] 0 } {t 2 [] 0 }] [{x 0 6 1 false} {y 0  0 false}]}")
	// Names that are words elsewhere.
	right(t, "NAME NAME\nROWS\n N N\n L L\n G ROWS\n E RHS\nCOLUMNS\n N N 1 RHS 2\n COLUMNS L 3\n 'MARKER' ROWS 4\n UP L 5\nRHS\n RHS RHS 6\n RHS ROWS 7\nBOUNDS\n UP UP UP 8\n UP RHS N 9\n FR 'MARKER' 'MARKER'\n", "{NAME N [{L 1 [{1 3} {3 5}] 0 } {ROWS 3 [{2 4}] 7 } {RHS 2 [{0 2}] 6 }] [{N 0 9 1 false} {COLUMNS 0  0 false} {'MARKER'   0 false} {UP 0 8 0 false}]}")
	right(t, "NAME ENDATA\nROWS\n N ENDATA\n L *\nCOLUMNS\n ENDATA * 1\n * * 2\nRHS\n * * 3\n", "{ENDATA ENDATA [{* 1 [{0 1} {1 2}] 3 }] [{ENDATA 0  0 false} {* 0  0 false}]}")
	right(t, "NAME x\nROWS\n N x\n L X\nCOLUMNS\n x x 1 X 2\n X x 3\nRHS\n x X 4\n", "{x x [{X 1 [{0 2}] 4 }] [{x 0  1 false} {X 0  3 false}]}")
}

// heads are the Heads, each with its section; the next may come behind it.
func heads() []struct{ head, text, next string } {
	return []struct{ head, text, next string }{
		{"", "", "NAME"}, {"NAME", inName, "ROWS"}, {"ROWS", inRows, "COLUMNS"}, {"COLUMNS", inColumns, "RHS"}, {"RHS", inRHS, "RANGES BOUNDS ENDATA"}, {"RANGES", inRanges, "BOUNDS ENDATA"}, {"BOUNDS", inBounds, "ENDATA"}, {"BOUNDS", inRanges + "BOUNDS\n", "ENDATA"},
	}
}

func TestGetsHeads(t *testing.T) {
	for _, section := range heads() {
		for _, to := range []string{"NAME", "ROWS", "COLUMNS", "RHS", "RANGES", "BOUNDS", "ENDATA"} {
			head := to
			if to == "NAME" {
				head = "NAME U"
			}
			if slices.Contains(strings.Fields(section.next), to) {
				if c, line, e := core.Get(section.text + head + "\n"); to == "ENDATA" && e != api.OK || to != "ENDATA" && (line != 0 || e != api.ErrOrder || c.Name != "") {
					t.Errorf("P8.2: %s behind %s is line %d, error %d", to, section.head, line, e)
				}
				wrong(t, section.text+head+" z z", api.ErrForm)
				continue
			}
			wrong(t, section.text+head, api.ErrOrder)
			wrong(t, section.text+head+" z z", api.ErrOrder)
			wrong(t, section.text+to, api.ErrOrder)
		}
		for _, head := range []string{"name T", "Name T", "rows", "Rows", "columns", "rhs", "ranges", "bounds", "endata", "END", "ENDATA.", "NAMES T", "ROW", "OBJSENSE", "x", "N d", "L r2", "'MARKER'", "x c 1", "RHS1", "ROWS*", "-ENDATA", "N", "1", long} {
			wrong(t, section.text+head, api.ErrOrder)
			wrong(t, section.text+head+" a b c d e f g", api.ErrOrder)
		}
		// What a line begins with makes its kind: a Head with a blank ahead is none.
		if data := "x c 1"; section.head == "" || section.head == "NAME" {
			for _, data := range []string{data, "NAME T", "ROWS", "N c", "ENDATA", "x", "a b c d e f", long} {
				wrong(t, section.text+" "+data, api.ErrOrder)
				wrong(t, section.text+"\t"+data, api.ErrOrder)
			}
		}
		if section.head != "" && section.head != "NAME" {
			wrong(t, section.text+" ENDATA", api.ErrForm)
		}
	}
}

func TestGetsHeadsWords(t *testing.T) {
	for _, head := range []string{"NAME", "NAME a b", "NAME a b c", "NAME " + long + " b"} {
		wrong(t, head, api.ErrForm)
	}
	wrong(t, "NAME "+long, api.ErrName)
	right(t, "NAME "+name20+"\nROWS\n N c\nCOLUMNS\nRHS\n", "{"+name20+" c [] []}")
	for _, at := range []string{inName + "ROWS", inRows + "COLUMNS", inColumns + "RHS", inRHS + "RANGES", inRHS + "BOUNDS", inRanges + "BOUNDS", inRHS + "ENDATA", inRanges + "ENDATA", inBounds + "ENDATA"} {
		wrong(t, at+" x", api.ErrForm)
		wrong(t, at+" x y", api.ErrForm)
		wrong(t, at+" "+long, api.ErrForm)
	}
	// COLUMNS wants an Obj, once its words are as many as they should be.
	for _, rows := range []string{"", " L r\n", " L r\n E N\n G c\n"} {
		wrong(t, inName+"ROWS\n"+rows+"COLUMNS", api.ErrOrder)
		wrong(t, inName+"ROWS\n"+rows+"COLUMNS x", api.ErrForm)
		right(t, inName+"ROWS\n"+rows+" N obj\nCOLUMNS\nRHS\n", fmt.Sprintf("{T obj [%s] []}", map[string]string{"": "", " L r\n": "{r 1 [] 0 }", " L r\n E N\n G c\n": "{r 1 [] 0 } {N 2 [] 0 } {c 3 [] 0 }"}[rows]))
	}
	wrong(t, inName+"ROWS\n L r\nRHS", api.ErrOrder)
}

func TestGetWithoutEnd(t *testing.T) {
	for _, section := range heads() {
		wrongEnd(t, section.text)
		wrongEnd(t, section.text+" \n\t\n\r\n")
	}
	for _, text := range []string{"", "\n", "\n\n\n", "*", "* x\n", "\t\r\n", " \n", "*NAME T\n", "* ENDATA"} {
		wrongEnd(t, text)
	}
	// A line's error comes ahead of the ENDATA that is missed.
	wrongAt(t, inRHS+" R q 1\n\n* x", strings.Count(inRHS, "\n")+1, api.ErrName)
}

// words.Get's errors come ahead of all, wherever they stand.
func TestGetOfWrongLines(t *testing.T) {
	file := inBounds + "ENDATA\n"
	hold := func(text string, no int, e api.Errno) {
		t.Helper()
		if c, line, got := core.Get(text); line != no || got != e || !reflect.DeepEqual(c, api.Core{}) {
			t.Errorf("P8.2: Get(..%.90q) is line %d, error %d, not %d, %d", text[max(0, len(text)-90):], line, got, no, e)
		}
	}
	for _, ahead := range []string{"", "x\n", " y\n", "NAME\n", "NAME T\nROWS\n Q\n", inRows, inRHS + " R q 1\n", file, file + "x\n"} {
		no := strings.Count(ahead, "\n") + 1
		for line, e := range map[string]api.Errno{"\x01": api.ErrForm, " x\x7f": api.ErrForm, "é": api.ErrForm, "*\x00": api.ErrForm, "a\rb": api.ErrForm, strings.Repeat("x", 201): api.ErrLimit, "*" + strings.Repeat(" ", 200): api.ErrLimit} {
			hold(ahead+line, no, e)
			hold(ahead+line+"\nENDATA\n\x02", no, e)
		}
		empty := strings.Repeat("\n", 2501-no)
		hold(ahead+empty+"x", 2501, api.ErrLimit)
		hold(ahead+empty+"\x01", 2501, api.ErrLimit)
	}
	if c, line, e := core.Get(file + strings.Repeat("\n", 2500-strings.Count(file, "\n"))); e != api.OK || line != 0 || c.Name != "T" {
		t.Errorf("P8.2: Get of 2500 lines is line %d, error %d", line, e)
	}
	hold(strings.Repeat("\n", 1<<24), 2501, api.ErrLimit)
	hold(strings.Repeat("x", 1<<24), 1, api.ErrLimit)
	hold(strings.Repeat("\xff\n", 1<<20), 1, api.ErrForm)
	hold(file+strings.Repeat(" ", 1<<24), strings.Count(file, "\n")+1, api.ErrLimit)
}

func TestGetsRows(t *testing.T) {
	head := inName + "ROWS\n"
	for _, line := range []string{" Q d", " n d", " l d", " e d", " g d", " NN d", " LE d", " <= d", " R d", " 'MARKER' d", " N", " L", " E", " G", " Q", " N a b", " L a b", " E a b", " G a b c", " Q a b", " L r N", " Q " + long, " L a " + long} {
		wrong(t, head+line, api.ErrForm)
		wrong(t, inRows+line, api.ErrForm)
	}
	for _, line := range []string{" N d", " N c", " N r", " N 'MARKER'", " N " + long} {
		wrong(t, inRows+line, api.ErrKind)
	}
	wrong(t, head+" N d\n N d", api.ErrKind)
	wrong(t, head+" N d\n L e\n N f", api.ErrKind)
	for _, kind := range []string{" L ", " E ", " G "} {
		for _, name := range []string{"c", "r", "s", "t", "'MARKER'", long} {
			wrong(t, inRows+kind+name, api.ErrName)
		}
		wrong(t, head+kind+"d\n N d", api.ErrName)
		right(t, inRows+kind+"C\n"+kind+name20+"\nCOLUMNS\nRHS\n", strings.ReplaceAll("{T c [{r 1 [] 0 } {s 3 [] 0 } {t 2 [] 0 } {C K [] 0 } {"+name20+" K [] 0 }] []}", "K", map[string]string{" L ": "1", " E ": "2", " G ": "3"}[kind]))
	}
	wrong(t, head+" N 'MARKER'", api.ErrName)
	wrong(t, head+" N "+long, api.ErrName)
	right(t, head+" N "+name20+"\nCOLUMNS\nRHS\n", "{T "+name20+" [] []}")
	right(t, head+" N 'INTORG'\n L MARKER\n L 'marker'\nCOLUMNS\nRHS\n", "{T 'INTORG' [{MARKER 1 [] 0 } {'marker' 1 [] 0 }] []}")
}

// some tells n lines, with numbers for its %d.
func some(n int, form string) string {
	text := ""
	for k := range n {
		text += fmt.Sprintf(form, k)
	}
	return text
}

// 40 rows may be, Obj not counted, wherever it stands.
func TestGetAtTheNumberOfRows(t *testing.T) {
	head := inName + "ROWS\n"
	for _, kind := range []string{"L", "E", "G"} {
		lines := some(40, " "+kind+" r%d\n")
		for _, full := range []string{head + " N c\n" + lines, head + some(20, " "+kind+" r%d\n") + " N c\n" + lines[strings.Index(lines, " "+kind+" r20"):], head + lines + " N c\n"} {
			c := right(t, full+"COLUMNS\nRHS\n", "{T c ["+strings.TrimSpace(some(40, "{r%d "+map[string]string{"L": "1", "E": "2", "G": "3"}[kind]+" [] 0 } "))+"] []}")
			if len(c.Rows) != 40 || c.Rows[39].Name != "r39" {
				t.Errorf("P8.2: %d rows, not 40", len(c.Rows))
			}
			for _, more := range []string{" L z", " E z", " G z", " L rhs"} {
				wrong(t, full+more, api.ErrLimit)
			}
			wrong(t, full+" L r7", api.ErrName)
			wrong(t, full+" L c", api.ErrName)
			wrong(t, full+" L "+long, api.ErrName)
			wrong(t, full+" G 'MARKER'", api.ErrName)
			wrong(t, full+" G z z", api.ErrForm)
			wrong(t, full+" Q z", api.ErrForm)
			wrong(t, full+" N z", api.ErrKind)
		}
		wrong(t, head+lines+" L z", api.ErrLimit)
	}
}

// Get answers new memory: who writes into one answer changes no other one, nor
// one of its lists another.
func TestAnswersAreNewMemory(t *testing.T) {
	file := inRows + "COLUMNS\n x c 1 r 2\n x s 3 t 4\n y r 5 s 6\n y t 7\n z r 8 t 9\nRHS\n R r 1\nENDATA\n"
	want, _, _ := core.Get(file)
	for k := range want.Rows {
		c, _, _ := core.Get(file)
		other, _, _ := core.Get(file)
		own := c.Rows[k].Coef
		for i := range own[:cap(own)] {
			own[:cap(own)][i] = api.Coef{Col: -7, V: "scribbled"}
		}
		for i := range c.Rows {
			if i != k && !reflect.DeepEqual(c.Rows[i], want.Rows[i]) {
				t.Errorf("P0.3: rows %d and %d share memory", i, k)
			}
		}
		for i := range c.Rows[:cap(c.Rows)] {
			c.Rows[:cap(c.Rows)][i] = api.Row{Name: "scribbled"}
		}
		for i := range c.Cols[:cap(c.Cols)] {
			c.Cols[:cap(c.Cols)][i] = api.Col{Name: "scribbled"}
		}
		again, _, _ := core.Get(file)
		if !reflect.DeepEqual(other, want) || !reflect.DeepEqual(again, want) {
			t.Errorf("P0.3, P0.5: answers of Get share memory")
		}
	}
}

// Nothing of one text is left when the next one is read.
func TestGetKeepsNothing(t *testing.T) {
	texts := map[string]api.Errno{
		inRHS + " R r 1\nENDATA": api.OK, inRHS + " R r 1 s 2\nRANGES\n R r 1\nBOUNDS\n BV B x\nENDATA": api.OK, inRHS + " R q 1": api.ErrName, inColumns + " M 'MARKER' 'INTORG'\n": api.ErrOrder, inColumns + " M 'MARKER' 'INTORG'\nRHS\nENDATA": api.OK, "": api.ErrOrder, "x": api.ErrOrder, inBounds + "ENDATA": api.OK,
	}
	for first := range maps.Keys(texts) {
		for second, e := range texts {
			core.Get(first)
			if _, _, got := core.Get(second); got != e {
				t.Errorf("P0.5: Get(..%.40q) is %d, not %d", second[max(0, len(second)-40):], got, e)
			}
		}
	}
}
