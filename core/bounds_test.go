package core_test

import (
	"fmt"
	"slices"
	"strings"
	"testing"

	"victualler/api"
	"victualler/core"
)

// keep: the bound stays as it is; value: it is the line's number.
const (
	keep  = "keep"
	value = "value"
)

// effect is what a kind of BOUNDS does.
type effect struct {
	kind    string
	low, up string
	int     bool
}

func withValue() []effect {
	return []effect{{"UP", keep, value, false}, {"LO", value, keep, false}, {"FX", value, value, false}, {"LI", value, keep, true}, {"UI", keep, value, true}}
}

func withoutValue() []effect {
	return []effect{{"FR", "", "", false}, {"MI", "", keep, false}, {"PL", keep, "", false}, {"BV", "0", "1", true}}
}

// laid is a bound that was was, when a line says so.
func laid(was, says, number string) string {
	switch says {
	case keep:
		return was
	case value:
		return number
	}
	return says
}

// boundLines tells lines of all kinds for a column, and what each does: numbers
// and, of UP and LO, infinities.
func boundLines(column string) (lines []string, effects []effect) {
	add := func(e effect, word, number string) {
		lines = append(lines, strings.TrimRight(" "+e.kind+" B "+column+" "+word, " ")+"\n")
		effects = append(effects, effect{e.kind, laid(keep, e.low, number), laid(keep, e.up, number), e.int})
	}
	for _, e := range withValue() {
		for word, number := range map[string]string{"0": "0", "3": "3", "-2.5": "-5/2", "7/3": "7/3", "+1e1": "10", "1e29": "1" + strings.Repeat("0", 29), number40: number40} {
			add(e, word, number)
		}
	}
	for _, word := range []string{"inf", "+inf", "infinity", "1e30", "INF", "Infinity", "+Inf", "1E30"} {
		add(withValue()[0], word, "")
		add(withValue()[1], strings.Replace("-"+word, "-+", "-", 1), "")
	}
	for _, word := range []string{"1e30", "1E30", "-1e30"} {
		for _, e := range withValue()[2:] {
			add(e, word, strings.Replace(strings.ToLower(word), "1e30", "1"+strings.Repeat("0", 30), 1))
		}
	}
	for _, e := range withoutValue() {
		add(e, "", "")
	}
	return lines, effects
}

// Lines of a column lie one over the other, whatever stands between.
func TestGetsBounds(t *testing.T) {
	lines, effects := boundLines("x")
	hold := func(text string, es ...effect) {
		t.Helper()
		low, up, whole := "0", "", false
		for _, e := range es {
			low, up, whole = laid(low, e.low, ""), laid(up, e.up, ""), whole || e.int
		}
		c, line, err := core.Get(inBounds + text + "ENDATA")
		if want := fmt.Sprintf("[{x %s %s 1 %v} {y 0  0 false}]", low, up, whole); err != api.OK || fmt.Sprint(c.Cols) != want || core.May(c) != api.OK {
			t.Errorf("P8.2: columns of %q are line %d, error %d, %v, not %s", text, line, err, c.Cols, want)
		}
	}
	hold("")
	for i, first := range lines {
		hold(first, effects[i])
		hold(strings.Replace(first, " B ", " "+name20+" ", 1), effects[i])
		for k, second := range lines {
			hold(first+second, effects[i], effects[k])
			hold(first+strings.Replace(second, " B ", " x ", 1)+" UP B y inf\n", effects[i], effects[k])
		}
	}
	c, _, _ := core.Get(inColumns + org + " y s 1\n z s 1\n" + fin + " w s 1\nRHS\nBOUNDS\n UP B y 7\n FR B z\n BV B w\n MI B x\n LO B y 2\nENDATA")
	if got := fmt.Sprint(c.Cols); got != "[{x   1 false} {y 2 7 0 true} {z   0 true} {w 0 1 0 true}]" {
		t.Errorf("P8.2: columns are %s", got)
	}
}

func TestGetsWrongBounds(t *testing.T) {
	for _, line := range []string{
		" ZZ B x 1", " ZZ B x", " ZZ", " up B x 1", " fr B x", " Up B x 1", " SC B x 1", " BN B x", " B x 1", " x 1", " N B x 1", " UPX B x 1", " ZZ " + long + " q y", " ZZ B q", " RHS B x 1",
		" UP", " UP B", " UP B x", " UP x 1", " UP B x 1 2", " LO B x", " FX B x", " FX B x 1 2", " LI B x", " UI B x", " UI B x 1 y 2", " FR", " FR B", " FR x", " FR B x 1", " MI B", " MI B x 0", " PL B x inf", " BV B", " BV B x 1", " BV B x 0 1",
		" UP " + long + " q", " UP B q", " FR " + long, " FR " + long + " q 1", " FR B q 1", " MI B q x x",
		" UP B x y", " UP B x -", " UP B x 2/4", " UP B x nan", " UP B x 1" + number40, " LO B x x", " FX B x x", " LI B x x", " UI B x x", " UP B x -inf", " UP B x -Infinity", " UP B x -1e30", " UP B x -1E30", " UP B x +infinity", " LO B x inf", " LO B x +inf", " LO B x INFINITY", " LO B x 1e30",
		" FX B x inf", " FX B x -inf", " LI B x -inf", " LI B x inf", " UI B x inf", " UI B x +INF", " FX B x infinity", " UI B x 1e101",
	} {
		wrong(t, inBounds+line, api.ErrForm)
		wrong(t, inRanges+"BOUNDS\n"+line, api.ErrForm)
	}
	kinds := []string{"UP", "LO", "FX", "LI", "UI", "FR", "MI", "PL", "BV"}
	for _, first := range "ABCDEFGHIJKLMNOPQRSTUVWXYZabxyz019-" {
		for _, second := range "ABCDEFGHIJKLMNOPQRSTUVWXYZabxyz019-" {
			if kind := string(first) + string(second); !slices.Contains(kinds, kind) {
				for _, words := range []string{" B x", " B x 1"} {
					if _, line, e := core.Get(inBounds + " " + kind + words + "\nENDATA"); line != strings.Count(inBounds, "\n")+1 || e != api.ErrForm {
						t.Errorf("P8.2: %s%s is line %d, error %d", kind, words, line, e)
					}
				}
			}
		}
	}
	for _, kind := range kinds {
		for _, words := range []string{" B q", " B X", " B r", " B c", " B B", " B T", " B RHS", " " + long + " x", " " + long + " q", " B " + long} {
			if len(kind) == 2 && strings.Contains("UP LO FX LI UI", kind) {
				wrong(t, inBounds+" "+kind+words+" 1", api.ErrName)
				wrong(t, inBounds+" "+kind+words+" y", api.ErrName)
				wrong(t, inBounds+" "+kind+words+" inf", api.ErrName)
				wrong(t, inBounds+" "+kind+words+" -inf", api.ErrName)
			} else {
				wrong(t, inBounds+" "+kind+words, api.ErrName)
			}
		}
	}
	// Numbers that look like infinities and are none.
	for word, number := range map[string]string{"+1e30": "1", "1e+30": "1", "1.0e30": "1", "1e030": "1", "10e29": "1", "-1e+30": "-1"} {
		right(t, inBounds+" UP B x "+word+"\n LO B y "+word+"\n", strings.ReplaceAll("{T c [{r 1 [{0 2}] 0 } {s 3 [{1 1}] 0 } {t 2 [] 0 }] [{x 0 V 1 false} {y V  0 false}]}", "V", number+strings.Repeat("0", 30)))
	}
}
