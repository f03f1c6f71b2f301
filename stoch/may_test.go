package stoch_test

import (
	"fmt"
	"math"
	"slices"
	"strings"
	"testing"

	"victualler/api"
	"victualler/stoch"
)

// goodIndep, goodBlocks and goodScens may be.
func goodIndep() api.Stoch {
	return of(api.KIndep,
		group("", one("1/2", entry("x", "r", "1")), one("1/4", entry("x", "r", "-7/3")), one("1/4", entry("x", "r", "0"))),
		group("", one("1", entry("", "r", "5"))),
		group("", one("1/3", entry("y", "s", "1")), one("2/3", entry("y", "s", "1"))))
}

func goodBlocks() api.Stoch {
	return of(api.KBlock,
		group("a", one("1/2", entry("x", "r", "1"), entry("", "r", "-7/3")), one("1/2", entry("x", "r", "0"), entry("y", "s", "4"), entry("z", "s", "4"))),
		group("b", one("1")),
		group("c", one("1/3", entry("x", "r", "1")), one("1/3"), one("1/3", entry("y", "r", "2"), entry("x", "r", "1"))))
}

func goodScens() api.Stoch {
	return of(api.KScen, group("ROOT", one("1/2", entry("x", "r", "1"), entry("", "r", "-7/3")), one("1/3"), one("1/6", entry("y", "s", "0"), entry("x", "r", "1"))))
}

func goods() []func() api.Stoch { return []func() api.Stoch{goodIndep, goodBlocks, goodScens} }

// turn changes a Stoch, and what May answers of it then.
type turn struct {
	what string
	do   func(s *api.Stoch)
	want api.Errno
}

func kindTurns() []turn {
	var turns []turn
	for _, kind := range []int{0, 4, -1, 5, 100, math.MaxInt, math.MinInt, 1 << 32, 1<<32 + 1, -2, -3} {
		turns = append(turns, turn{fmt.Sprint("Kind ", kind), func(s *api.Stoch) { s.Kind = kind }, api.ErrKind})
	}
	return turns
}

// wrongNumbers are no frac.Get; rightNumbers are.
func wrongNumbers() []string {
	return []string{"", "x", "+1", "1.5", "1.", ".5", "1e1", "inf", "2/4", "3/1", "0/1", "1/0", "-0", "00", "01", " 1", "1 ", "--1", "1/-2", "1/", "/1", "/", "-", "\x00", "１", strings.Repeat("9", 2001), "1/" + strings.Repeat("9", 2001), strings.Repeat("1", 1<<20)}
}

func rightNumbers() []string {
	return []string{"0", "1", "-1", "7/3", "-7/3", strings.Repeat("9", 2000), "-1/" + strings.Repeat("7", 2000)}
}

// lastCase is the last case of the last group, and lastEntry that of a case that
// has one.
func lastCase(s *api.Stoch) *api.Case {
	cs := s.Groups[len(s.Groups)-1].Cases
	return &cs[len(cs)-1]
}

func lastEntry(s *api.Stoch) *api.Entry {
	es := lastCase(s).Es
	return &es[len(es)-1]
}

func numberTurns() []turn {
	var turns []turn
	for _, text := range wrongNumbers() {
		turns = append(turns,
			turn{fmt.Sprintf("the first V is %.30q", text), func(s *api.Stoch) { s.Groups[0].Cases[0].Es[0].V = text }, api.ErrForm},
			turn{fmt.Sprintf("the last V is %.30q", text), func(s *api.Stoch) { lastEntry(s).V = text }, api.ErrForm},
			turn{fmt.Sprintf("the first P is %.30q", text), func(s *api.Stoch) { s.Groups[0].Cases[0].P = text }, api.ErrForm},
			turn{fmt.Sprintf("the last P is %.30q", text), func(s *api.Stoch) { lastCase(s).P = text }, api.ErrForm})
	}
	for _, text := range rightNumbers() {
		turns = append(turns,
			turn{fmt.Sprintf("the first V is %.30q", text), func(s *api.Stoch) { s.Groups[0].Cases[0].Es[0].V = text }, api.OK},
			turn{fmt.Sprintf("the last V is %.30q", text), func(s *api.Stoch) { lastEntry(s).V = text }, api.OK})
	}
	for _, text := range []string{"0", "-1", "-1/2", "-7/3", "-" + strings.Repeat("9", 2000)} {
		turns = append(turns,
			turn{fmt.Sprintf("the first P is %.30q", text), func(s *api.Stoch) { s.Groups[0].Cases[0].P = text }, api.ErrForm},
			turn{fmt.Sprintf("the last P is %.30q", text), func(s *api.Stoch) { lastCase(s).P = text }, api.ErrForm})
	}
	for _, text := range []string{"1", "2", "1/5", "49/100", "1/" + strings.Repeat("7", 2000), strings.Repeat("9", 2000)} {
		turns = append(turns,
			turn{fmt.Sprintf("the first P is %.30q", text), func(s *api.Stoch) { s.Groups[0].Cases[0].P = text }, api.ErrProb},
			turn{fmt.Sprintf("the last P is %.30q", text), func(s *api.Stoch) { lastCase(s).P = text }, api.ErrProb})
	}
	return turns
}

// wrongNames are no words.Name; rightNames are.
func wrongNames() []string {
	return []string{"", " ", "a b", "a ", " a", "\t", "a\n", "a\x00", "a\x1f", "a\x7f", "\x80", "é", "a\xff", long, strings.Repeat("q", 1<<20)}
}

func rightNames() []string {
	return []string{"!", "~", "*", "q", "BL", "SC", "'ROOT'", "rhs", "RHS2", "'RHS'", "'MARKER'", "1e30", name20}
}

// moved puts the entries of the last group's cases to other places: all of them
// of KIndep, which has them at one place, else the last one.
func moved(col, row string) func(s *api.Stoch) {
	return func(s *api.Stoch) {
		lastEntry(s).At = api.Place{Col: col, Row: row}
		if s.Kind == api.KIndep {
			cs := s.Groups[len(s.Groups)-1].Cases
			for k := range cs {
				cs[k].Es[0].At = api.Place{Col: col, Row: row}
			}
		}
	}
}

func placeTurns() []turn {
	var turns []turn
	for _, name := range wrongNames() {
		turns = append(turns, turn{fmt.Sprintf("Row %.30q", name), moved("q", name), api.ErrForm}, turn{fmt.Sprintf("Row %.30q of the right side", name), moved("", name), api.ErrForm})
		if name != "" {
			turns = append(turns, turn{fmt.Sprintf("Col %.30q", name), moved(name, "q"), api.ErrForm})
		}
	}
	for _, name := range rightNames() {
		turns = append(turns, turn{fmt.Sprintf("Row %.30q", name), moved("q", name), api.OK}, turn{fmt.Sprintf("Row %.30q of the right side", name), moved("", name), api.OK}, turn{fmt.Sprintf("Col %.30q", name), moved(name, "q"), api.OK})
	}
	return append(turns, turn{"Col RHS", moved("RHS", "q"), api.ErrForm}, turn{"Row RHS", moved("q", "RHS"), api.OK}, turn{"Row RHS of the right side", moved("", "RHS"), api.OK}, turn{"Col and Row alike", moved("q", "q"), api.OK})
}

// moreEntries puts entries into the first case, up to n; moreCases and moreGroups
// likewise, so that all comes to 1.
func moreEntries(n int) func(s *api.Stoch) {
	return func(s *api.Stoch) {
		c := &s.Groups[0].Cases[0]
		for len(c.Es) < n {
			c.Es = append(c.Es, entry("more", fmt.Sprint(len(c.Es)), "1"))
		}
	}
}

func moreCases(n int) func(s *api.Stoch) {
	return func(s *api.Stoch) {
		g := &s.Groups[0]
		es := g.Cases[0].Es
		g.Cases = nil
		for len(g.Cases) < n {
			g.Cases = append(g.Cases, one(fmt.Sprint("1/", n), es...))
		}
	}
}

func moreGroups(n int) func(s *api.Stoch) {
	return func(s *api.Stoch) {
		for k := len(s.Groups); k < n; k++ {
			name := ""
			if s.Kind != api.KIndep {
				name = fmt.Sprint("more", k)
			}
			s.Groups = append(s.Groups, group(name, one("1", entry("more", fmt.Sprint(k), "1"))))
		}
	}
}

func TestMay(t *testing.T) {
	both := slices.Concat([]turn{{"as it is", func(*api.Stoch) {}, api.OK}}, kindTurns(), numberTurns(), placeTurns(), []turn{
		{"64 cases", moreCases(64), api.OK}, {"65 cases", moreCases(65), api.ErrLimit}, {"a thousand cases", moreCases(1000), api.ErrLimit},
		{"P by one case less", func(s *api.Stoch) { s.Groups[0].Cases = s.Groups[0].Cases[1:] }, api.ErrProb},
	})
	for _, good := range goods() {
		for _, x := range both {
			s := good()
			x.do(&s)
			if e := stoch.May(s); e != x.want {
				t.Errorf("P10.1: %s: May of Kind %d is %d, not %d", x.what, good().Kind, e, x.want)
			}
		}
	}
}

// set puts groups in the place of what is there.
func set(gs ...api.Group) func(s *api.Stoch) { return func(s *api.Stoch) { s.Groups = gs } }

func indepTurns() []turn {
	x, at := one("1", entry("x", "r", "1")), func(p, col, row string) api.Case { return one(p, entry(col, row, "1")) }
	turns := []turn{
		{"no groups", set(), api.OK}, {"no groups, empty", func(s *api.Stoch) { s.Groups = []api.Group{} }, api.OK}, {"one group", set(group("", x)), api.OK}, {"a group without cases", set(group("")), api.ErrForm}, {"an empty list of cases", set(group("", []api.Case{}...)), api.ErrForm}, {"a group behind without cases", set(group("", x), group("")), api.ErrForm}, {"two groups without cases", set(group(""), group("")), api.ErrForm},
		{"a case without entries", set(group("", one("1"))), api.ErrForm}, {"a case behind without entries", set(group("", at("1/2", "x", "r"), one("1/2"))), api.ErrForm}, {"a case ahead without entries", set(group("", one("1/2"), at("1/2", "x", "r"))), api.ErrForm}, {"cases without entries", set(group("", one("1/2"), one("1/2"))), api.ErrForm}, {"two entries", set(group("", one("1", entry("x", "r", "1"), entry("x", "s", "1")))), api.ErrForm}, {"two entries behind", set(group("", at("1/2", "x", "r"), one("1/2", entry("x", "r", "1"), entry("x", "s", "1")))), api.ErrForm}, {"an entry twice", set(group("", one("1", entry("x", "r", "1"), entry("x", "r", "1")))), api.ErrForm},
		{"another column", set(group("", at("1/2", "x", "r"), at("1/2", "y", "r"))), api.ErrForm}, {"another row", set(group("", at("1/2", "x", "r"), at("1/2", "x", "s"))), api.ErrForm}, {"the right side", set(group("", at("1/2", "x", "r"), at("1/2", "", "r"))), api.ErrForm}, {"another one last", set(group("", at("1/3", "x", "r"), at("1/3", "x", "r"), at("1/3", "x", "s"))), api.ErrForm}, {"another one amid", set(group("", at("1/3", "x", "r"), at("1/3", "x", "s"), at("1/3", "x", "r"))), api.ErrForm},
		{"two groups of one place", set(group("", x), group("", x)), api.ErrForm}, {"the same place once more, behind", set(group("", x), group("", at("1", "y", "r")), group("", x)), api.ErrForm}, {"the same right side", set(group("", at("1", "", "r")), group("", at("1", "", "r"))), api.ErrForm}, {"the same place of another value", set(group("", x), group("", one("1", entry("x", "r", "2")))), api.ErrForm}, {"places of one row", set(group("", x), group("", at("1", "y", "r")), group("", at("1", "", "r"))), api.OK}, {"places of one column", set(group("", x), group("", at("1", "x", "s"))), api.OK}, {"names the other way", set(group("", x), group("", at("1", "r", "x"))), api.OK}, {"values twice", set(group("", at("1/2", "x", "r"), at("1/2", "x", "r"))), api.OK},
		{"40 groups", moreGroups(40), api.OK}, {"41 groups", moreGroups(41), api.ErrLimit}, {"many groups", moreGroups(1 << 17), api.ErrLimit}, {"half in each of two groups", set(group("", at("1/2", "x", "r")), group("", at("1/2", "y", "r"))), api.ErrProb}, {"the last group comes to less", set(group("", x), group("", at("1/2", "y", "r"))), api.ErrProb}, {"the first group comes to more", set(group("", x, x), group("", at("1", "y", "r"))), api.ErrProb}, {"many empty groups", func(s *api.Stoch) { s.Groups = make([]api.Group, 1<<20) }, api.ErrForm}, {"many empty cases", set(group("", make([]api.Case, 1<<20)...)), api.ErrForm},
	}
	for _, name := range []string{"a", "ROOT", "x", " ", long, name20} {
		turns = append(turns, turn{"a group of name " + name, func(s *api.Stoch) { s.Groups[0].Name = name }, api.ErrForm}, turn{"a last group of name " + name, func(s *api.Stoch) { s.Groups[2].Name = name }, api.ErrForm})
	}
	return turns
}

func blockTurns() []turn {
	x := one("1", entry("x", "r", "1"))
	turns := []turn{
		{"no groups", set(), api.OK}, {"no groups, empty", func(s *api.Stoch) { s.Groups = []api.Group{} }, api.OK}, {"a case without entries", set(group("a", one("1"))), api.OK}, {"an empty list of entries", set(group("a", one("1", []api.Entry{}...))), api.OK}, {"a group without cases", set(group("a")), api.ErrForm}, {"a group behind without cases", set(group("a", x), group("b")), api.ErrForm}, {"two groups of one name", set(group("a", x), group("a", one("1", entry("y", "r", "1")))), api.ErrForm}, {"the same name once more, behind", set(group("a", x), group("b", x), group("a", x)), api.ErrForm}, {"names that differ by a letter's case", set(group("a", x), group("A", x)), api.OK}, {"one place in two groups", set(group("a", x), group("b", x)), api.OK}, {"a group of name ROOT", set(group("ROOT", x)), api.OK},
		{"an entry twice", set(group("a", one("1", entry("x", "r", "1"), entry("x", "r", "1")))), api.ErrForm}, {"an entry twice, with another value, behind", set(group("a", one("1", entry("x", "r", "1"), entry("y", "r", "1"), entry("x", "r", "2")))), api.ErrForm}, {"a right side twice", set(group("a", one("1", entry("", "r", "1"), entry("", "r", "2")))), api.ErrForm}, {"an entry twice in the last case", func(s *api.Stoch) { c := lastCase(s); c.Es = append(c.Es, c.Es[0]) }, api.ErrForm}, {"an entry in two cases", set(group("a", one("1/2", entry("x", "r", "1")), one("1/2", entry("x", "r", "1")))), api.OK}, {"names the other way", set(group("a", one("1", entry("x", "r", "1"), entry("r", "x", "1")))), api.OK},
		{"40 groups", moreGroups(40), api.OK}, {"41 groups", moreGroups(41), api.ErrLimit}, {"many groups", moreGroups(1 << 17), api.ErrLimit}, {"40 entries", moreEntries(40), api.OK}, {"41 entries", moreEntries(41), api.ErrLimit}, {"many entries", moreEntries(1 << 17), api.ErrLimit}, {"41 entries in the last case", func(s *api.Stoch) { moreEntries(41)(s); slices.Reverse(s.Groups[0].Cases); slices.Reverse(s.Groups) }, api.ErrLimit}, {"40 entries in each of many cases", func(s *api.Stoch) { moreEntries(40)(s); moreCases(64)(s) }, api.OK},
		{"half in each of two groups", set(group("a", one("1/2")), group("b", one("1/2"))), api.ErrProb}, {"the last group comes to less", set(group("a", x), group("b", one("1/2"))), api.ErrProb}, {"the first group comes to more", set(group("a", x, x), group("b", x)), api.ErrProb}, {"many empty groups", func(s *api.Stoch) { s.Groups = make([]api.Group, 1<<20) }, api.ErrForm}, {"many empty cases", set(group("a", make([]api.Case, 1<<20)...)), api.ErrForm}, {"many empty entries", set(group("a", one("1", make([]api.Entry, 1<<20)...))), api.ErrForm},
	}
	for _, name := range wrongNames() {
		turns = append(turns, turn{fmt.Sprintf("a group of name %.30q", name), func(s *api.Stoch) { s.Groups[0].Name = name }, api.ErrForm}, turn{fmt.Sprintf("a last group of name %.30q", name), func(s *api.Stoch) { s.Groups[2].Name = name }, api.ErrForm})
	}
	for _, name := range append(rightNames(), "RHS", "ROOT") {
		turns = append(turns, turn{"a group of name " + name, func(s *api.Stoch) { s.Groups[0].Name = name }, api.OK}, turn{"a last group of name " + name, func(s *api.Stoch) { s.Groups[2].Name = name }, api.OK})
	}
	return turns
}

func scenTurns() []turn {
	x := one("1", entry("x", "r", "1"))
	turns := []turn{
		{"no groups", set(), api.ErrForm}, {"no groups, empty", func(s *api.Stoch) { s.Groups = []api.Group{} }, api.ErrForm}, {"no cases", set(group("ROOT")), api.ErrProb}, {"an empty list of cases", set(group("ROOT", []api.Case{}...)), api.ErrProb}, {"a case without entries", set(group("ROOT", one("1"))), api.OK}, {"two groups", set(group("ROOT", x), group("ROOT", x)), api.ErrForm}, {"two groups of two names", set(group("ROOT", x), group("a", x)), api.ErrForm}, {"41 groups", moreGroups(41), api.ErrForm}, {"an entry twice", set(group("ROOT", one("1", entry("x", "r", "1"), entry("x", "r", "2")))), api.ErrForm}, {"an entry in two cases", set(group("ROOT", one("1/2", entry("x", "r", "1")), one("1/2", entry("x", "r", "1")))), api.OK},
		{"40 entries", moreEntries(40), api.OK}, {"41 entries", moreEntries(41), api.ErrLimit}, {"40 entries in each of many cases", func(s *api.Stoch) { moreEntries(40)(s); moreCases(64)(s) }, api.OK}, {"many empty cases", set(group("ROOT", make([]api.Case, 1<<20)...)), api.ErrForm},
	}
	for _, name := range append(append(wrongNames(), rightNames()...), "root", "Root", "ROOT ", "ROOTS") {
		turns = append(turns, turn{fmt.Sprintf("a group of name %.30q", name), func(s *api.Stoch) { s.Groups[0].Name = name }, api.ErrForm})
	}
	return turns
}

func TestMayOfEachKind(t *testing.T) {
	for k, turns := range [][]turn{indepTurns(), blockTurns(), scenTurns()} {
		for _, x := range turns {
			s := goods()[k]()
			x.do(&s)
			if e := stoch.May(s); e != x.want {
				t.Errorf("P10.1: %s: May of Kind %d is %d, not %d", x.what, k+1, e, x.want)
			}
		}
	}
	// What one Kind may be another one may not; but ROOT is a block's name, too.
	for k, wants := range [][]api.Errno{{api.OK, api.ErrForm, api.ErrForm}, {api.ErrForm, api.OK, api.ErrForm}, {api.ErrForm, api.OK, api.OK}} {
		for kind, want := range wants {
			s := goods()[k]()
			s.Kind = kind + 1
			if e := stoch.May(s); e != want {
				t.Errorf("P10.1: May of Kind %d's groups as Kind %d is %d, not %d", k+1, kind+1, e, want)
			}
		}
	}
}

// All that P come to counts, exactly and group by group.
func TestMayOfP(t *testing.T) {
	for ps, want := range map[string]api.Errno{
		"1": api.OK, "1/2 1/2": api.OK, "1/3 1/3 1/3": api.OK, "1/2 1/3 1/6": api.OK, "1/2 1/4 1/8 1/16 1/16": api.OK, "1/7 2/7 4/7": api.OK, "1/1000000007 1000000006/1000000007": api.OK, "1/3 1/5 7/15": api.OK,
		"2": api.ErrProb, "1 1": api.ErrProb, "1/2": api.ErrProb, "1/2 1/3": api.ErrProb, "1/2 1/2 1/2": api.ErrProb, "1/3 1/3": api.ErrProb, "1 1 1": api.ErrProb, "1/1000000007 1000000005/1000000007": api.ErrProb, "1/2 1/3 1/7": api.ErrProb, "1/3 333333333/1000000000 1/3": api.ErrProb, "3/2 1/2": api.ErrProb,
		"1 0": api.ErrForm, "0 1": api.ErrForm, "0": api.ErrForm, "2 -1": api.ErrForm, "-1 2": api.ErrForm, "1/2 1/2 1/2 -1/2": api.ErrForm,
		"1/" + strings.Repeat("9", 2000) + " " + strings.Repeat("9", 1999) + "8/" + strings.Repeat("9", 2000): api.OK, "1/" + strings.Repeat("9", 2000) + " " + strings.Repeat("9", 1999) + "7/" + strings.Repeat("9", 2000): api.ErrProb, "1/" + strings.Repeat("9", 2000) + " 1": api.ErrProb,
	} {
		var cs, indep []api.Case
		for _, p := range strings.Fields(ps) {
			cs = append(cs, one(p))
			indep = append(indep, one(p, entry("x", "r", "1")))
		}
		for _, s := range []api.Stoch{of(3, group("ROOT", cs...)), of(2, group("a", cs...)), of(2, group("a", cs...), group("b", one("1"))), of(2, group("b", one("1")), group("a", cs...)), of(1, group("", indep...)), of(1, group("", one("1", entry("y", "r", "1"))), group("", indep...))} {
			if e := stoch.May(s); e != want {
				t.Errorf("P10.1: May of Kind %d, %d groups of P %.60s is %d, not %d", s.Kind, len(s.Groups), ps, e, want)
			}
		}
	}
}

// Of any two wrongs the one counts that the sentence names first.
func TestMaysFirstError(t *testing.T) {
	first := func(c func(s *api.Stoch) *api.Case, do func(c *api.Case)) func(s *api.Stoch) {
		return func(s *api.Stoch) { do(c(s)) }
	}
	ofFirst := func(s *api.Stoch) *api.Case { return &s.Groups[0].Cases[0] }
	turns := [][]turn{
		{{"Kind 0", func(s *api.Stoch) { s.Kind = 0 }, api.ErrKind}, {"Kind 4", func(s *api.Stoch) { s.Kind = 4 }, api.ErrKind}},
		{
			{"the first V", first(ofFirst, func(c *api.Case) { c.Es[0].V = "x" }), api.ErrForm}, {"the first Row", first(ofFirst, func(c *api.Case) { c.Es[0].At.Row = "" }), api.ErrForm}, {"the first P is 0", first(ofFirst, func(c *api.Case) { c.P = "0" }), api.ErrForm}, {"the first P", first(ofFirst, func(c *api.Case) { c.P = "" }), api.ErrForm}, {"the first entry twice", first(ofFirst, func(c *api.Case) { c.Es = append(c.Es, c.Es[0]) }), api.ErrForm}, {"the first name", func(s *api.Stoch) { s.Groups[0].Name = " " }, api.ErrForm},
			{"the last V", first(lastCase, func(c *api.Case) { c.Es[0].V = "x" }), api.ErrForm}, {"the last Col", first(lastCase, func(c *api.Case) { c.Es[0].At.Col = "RHS" }), api.ErrForm}, {"the last P is below 0", first(lastCase, func(c *api.Case) { c.P = "-1" }), api.ErrForm}, {"the last name", func(s *api.Stoch) { s.Groups[len(s.Groups)-1].Name = " " }, api.ErrForm},
		},
		{{"the first P is less", first(ofFirst, func(c *api.Case) { c.P = "1/9" }), api.ErrProb}, {"the last P is more", first(lastCase, func(c *api.Case) { c.P = "9" }), api.ErrProb}},
		{{"65 cases", moreCases(65), api.ErrLimit}},
	}
	more := []turn{{"41 groups", moreGroups(41), api.ErrLimit}, {"41 entries", moreEntries(41), api.ErrLimit}}
	for k, good := range goods() {
		limits := slices.Concat(turns[3], [][]turn{more[:1], more, more[1:]}[k])
		order := [][]turn{turns[0], turns[1], turns[2], limits}
		for i, as := range order {
			for j, bs := range order {
				for _, a := range as {
					for _, b := range bs {
						// The greater change ahead, for it makes the cases that others turn.
						x, y := a, b
						if j > i {
							x, y = b, a
						}
						s := good()
						x.do(&s)
						y.do(&s)
						if e := stoch.May(s); e != order[min(i, j)][0].want {
							t.Errorf("P10.1: Kind %d, %s and %s: May is %d", k+1, a.what, b.what, e)
						}
					}
				}
			}
		}
	}
}

func TestEq(t *testing.T) {
	everywhere := []turn{
		{"another Kind", func(s *api.Stoch) { s.Kind++ }, 0}, {"another name", func(s *api.Stoch) { s.Groups[0].Name += "x" }, 0}, {"another last name", func(s *api.Stoch) { s.Groups[len(s.Groups)-1].Name += "x" }, 0}, {"another P", func(s *api.Stoch) { s.Groups[0].Cases[0].P = "1/9" }, 0}, {"a P of the same worth", func(s *api.Stoch) { s.Groups[0].Cases[0].P = "2/4" }, 0}, {"another last P", func(s *api.Stoch) { lastCase(s).P = "" }, 0}, {"another V", func(s *api.Stoch) { s.Groups[0].Cases[0].Es[0].V = "2" }, 0}, {"a V of the same worth", func(s *api.Stoch) { s.Groups[0].Cases[0].Es[0].V = "1/1" }, 0}, {"another last V", func(s *api.Stoch) { lastEntry(s).V = "9" }, 0}, {"another Col", func(s *api.Stoch) { s.Groups[0].Cases[0].Es[0].At.Col = "" }, 0}, {"another last Row", func(s *api.Stoch) { lastEntry(s).At.Row = "q" }, 0}, {"Col and Row the other way", func(s *api.Stoch) { at := &lastEntry(s).At; at.Col, at.Row = at.Row, at.Col }, 0},
		{"a group less", func(s *api.Stoch) { s.Groups = s.Groups[1:] }, 0}, {"a group less at the end", func(s *api.Stoch) { s.Groups = s.Groups[:len(s.Groups)-1] }, 0}, {"a group more", func(s *api.Stoch) { s.Groups = append(s.Groups, api.Group{}) }, 0}, {"a case less", func(s *api.Stoch) { s.Groups[0].Cases = s.Groups[0].Cases[:1] }, 0}, {"a case more", func(s *api.Stoch) { s.Groups[0].Cases = append(s.Groups[0].Cases, api.Case{}) }, 0}, {"an entry less", func(s *api.Stoch) { lastCase(s).Es = lastCase(s).Es[1:] }, 0}, {"an entry more", func(s *api.Stoch) { lastCase(s).Es = append(lastCase(s).Es, api.Entry{}) }, 0},
		{"groups the other way", func(s *api.Stoch) { slices.Reverse(s.Groups) }, 0}, {"cases the other way", func(s *api.Stoch) { slices.Reverse(s.Groups[0].Cases) }, 0}, {"entries the other way", func(s *api.Stoch) { slices.Reverse(lastCase(s).Es) }, 0}, {"no groups", func(s *api.Stoch) { s.Groups = nil }, 0}, {"no cases", func(s *api.Stoch) { s.Groups[0].Cases = nil }, 0}, {"no entries", func(s *api.Stoch) { lastCase(s).Es = nil }, 0}, {"as it is", func(*api.Stoch) {}, 0},
	}
	for _, turns := range [][]turn{everywhere, kindTurns(), numberTurns(), placeTurns()} {
		for _, good := range goods() {
			for _, x := range turns {
				a, b := good(), good()
				x.do(&a)
				x.do(&b)
				if !stoch.Eq(a, a) || !stoch.Eq(a, b) || !stoch.Eq(b, a) {
					t.Errorf("P10.1: %s: Eq of the same is false", x.what)
				}
				want := told(a) == told(good())
				if stoch.Eq(a, good()) != want || stoch.Eq(good(), a) != want || stoch.Eq(a, api.Stoch{}) || stoch.Eq(api.Stoch{}, a) {
					t.Errorf("P10.1: %s: Eq of Kind %d is not %v", x.what, good().Kind, want)
				}
			}
		}
	}
	for i, a := range goods() {
		for j, b := range goods() {
			if stoch.Eq(a(), b()) != (i == j) {
				t.Errorf("P10.1: Eq of Kinds %d and %d", i+1, j+1)
			}
		}
	}
}

func TestEqOfNoLists(t *testing.T) {
	cases := func(cs []api.Case) api.Stoch { return of(2, api.Group{Name: "a", Cases: cs}) }
	entries := func(es []api.Entry) api.Stoch { return cases([]api.Case{{P: "1", Es: es}}) }
	for _, pair := range [][2]api.Stoch{
		{{}, {}}, {{Groups: []api.Group{}}, {}}, {{Groups: []api.Group{}}, {Groups: make([]api.Group, 0, 5)}}, {cases(nil), cases([]api.Case{})}, {entries(nil), entries([]api.Entry{})},
	} {
		if !stoch.Eq(pair[0], pair[1]) || !stoch.Eq(pair[1], pair[0]) {
			t.Errorf("P10.1: Eq(%v, %v) is false", pair[0], pair[1])
		}
		if stoch.May(pair[0]) != stoch.May(pair[1]) {
			t.Errorf("P0.4: May of %v and %v differ", pair[0], pair[1])
		}
	}
	for _, pair := range [][2]api.Stoch{
		{{Groups: make([]api.Group, 1)}, {}}, {{Groups: make([]api.Group, 2)}, {Groups: make([]api.Group, 3)}}, {cases(nil), cases([]api.Case{{}})}, {entries(nil), entries([]api.Entry{{}})}, {{Kind: 1}, {}}, {{Kind: math.MaxInt}, {Kind: math.MinInt}},
	} {
		if stoch.Eq(pair[0], pair[1]) || stoch.Eq(pair[1], pair[0]) {
			t.Errorf("P10.1: Eq(%v, %v) is true", pair[0], pair[1])
		}
	}
}

// roomy is a copy of s whose lists have spare room, which is filled.
func roomy(s api.Stoch) api.Stoch {
	groups := append([]api.Group{}, s.Groups...)
	for i := range groups {
		cases := append([]api.Case{}, groups[i].Cases...)
		for j := range cases {
			cases[j].Es = append(append([]api.Entry{}, cases[j].Es...), entry("room", "room", "room"))[:len(cases[j].Es)]
		}
		groups[i].Cases = append(cases, one("room"))[:len(cases)]
	}
	s.Groups = append(groups, group("room"))[:len(groups)]
	return s
}

// spread tells all of a Stoch, its lists' spare room, too.
func spread(s api.Stoch) string {
	groups := append([]api.Group{}, s.Groups[:cap(s.Groups)]...)
	for i := range groups {
		groups[i].Cases = append([]api.Case{}, groups[i].Cases[:cap(groups[i].Cases)]...)
		for j := range groups[i].Cases {
			c := &groups[i].Cases[j]
			c.Es = c.Es[:cap(c.Es)]
		}
	}
	return told(of(s.Kind, groups...))
}

// What is handed in stays as it is, and is not kept.
func TestArgumentsStay(t *testing.T) {
	for k, good := range goods() {
		for _, x := range slices.Concat(numberTurns(), placeTurns(), [][]turn{indepTurns(), blockTurns(), scenTurns()}[k]) {
			s := good()
			x.do(&s)
			if strings.HasPrefix(x.what, "many") {
				continue
			}
			s = roomy(s)
			was, e := spread(s), stoch.May(s)
			stoch.Eq(s, s)
			stoch.Eq(s, good())
			if spread(s) != was {
				t.Errorf("P0.3: %s: it is changed", x.what)
			}
			scribble(s)
			again := good()
			x.do(&again)
			if stoch.May(again) != e || e != x.want {
				t.Errorf("P0.5: %s: May is %d, then %d", x.what, e, stoch.May(again))
			}
		}
	}
}

// Long lists end.
func TestMayOfLongLists(t *testing.T) {
	s := of(2, group("a"))
	for range 1 << 17 {
		s.Groups[0].Cases = append(s.Groups[0].Cases, one("1/131072", entry("x", "r", "1")))
	}
	if e := stoch.May(s); e != api.ErrLimit || !stoch.Eq(s, s) {
		t.Errorf("P10.1: May of many cases is %d", e)
	}
	s.Groups[0].Cases[1<<16].P = "1/131071"
	if e := stoch.May(s); e != api.ErrProb {
		t.Errorf("P10.1: May of many cases that come to more is %d", e)
	}
	s.Groups[0].Cases = s.Groups[0].Cases[:1000]
	for k := range s.Groups[0].Cases {
		s.Groups[0].Cases[k].P = fmt.Sprint("1/", 1000000007+2*k)
	}
	if e := stoch.May(s); e != api.ErrProb {
		t.Errorf("P10.1: May of many denominators is %d", e)
	}
}
