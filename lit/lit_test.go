package lit_test

import (
	"fmt"
	"math/big"
	"regexp"
	"strconv"
	"strings"
	"testing"

	"victualler/frac"
	"victualler/lit"
)

// forms are the sentence's, as an expression: sign, digits, exponent.
var forms = regexp.MustCompile(`\A([+-]?)(?:([0-9]+)\.?|([0-9]*)\.([0-9]+))(?:[eE]([+-]?[0-9]{1,3}))?\z`)

// fractions are those of which no divisor is seen yet.
var fractions = regexp.MustCompile(`\A-?(0|[1-9][0-9]*)(/[1-9][0-9]*)?\z`)

// asked is what the chapter asks of s: nil, there is no number.
func asked(s string) *big.Rat {
	if len(s) > 40 {
		return nil
	}
	if fractions.MatchString(s) {
		if x, ok := new(big.Rat).SetString(s); ok && x.RatString() == s {
			return x
		}
	}
	m := forms.FindStringSubmatch(s)
	if m == nil {
		return nil
	}
	power, _ := strconv.Atoi(m[5])
	if power < -100 || power > 100 {
		return nil
	}
	n, _ := new(big.Int).SetString(m[2]+m[3]+m[4], 10)
	if m[1] == "-" {
		n.Neg(n)
	}
	upper, lower := tens(power), tens(-power)
	lower.Mul(lower, tens(len(m[4])))
	return new(big.Rat).SetFrac(n.Mul(n, upper), lower)
}

// tens is 10^n, 1 where n is below 0.
func tens(n int) *big.Int {
	return new(big.Int).Exp(big.NewInt(10), big.NewInt(int64(max(n, 0))), nil)
}

// hold holds Get against what is asked.
func hold(t *testing.T, s string) {
	t.Helper()
	x, ok := lit.Get(s)
	want := asked(s)
	switch {
	case want == nil && (ok || x != nil):
		t.Errorf("P4.1, P0.2: Get(%q) is %s, %v, not nil, false", s, x.Text(), ok)
	case want != nil && (!ok || x == nil || x.Text() != want.RatString()):
		t.Errorf("P4.1: Get(%q) is %s, %v, not %s", s, x.Text(), ok, want.RatString())
	}
}

func TestGetOfNumbers(t *testing.T) {
	for s, want := range map[string]string{
		"0": "0", "9": "9", "10": "10", "00": "0", "0123456789": "123456789", "+0": "0", "-0": "0", "-00": "0", "+000": "0",
		"+9": "9", "-9": "-9", "-09": "-9", "+09": "9", "1234567890123456789012345678901234567890": "1234567890123456789012345678901234567890",
		"0.": "0", ".0": "0", "0.0": "0", "-.0": "0", "-0.": "0", "+.0": "0", "9.": "9", "-9.": "-9", "+9.": "9", ".9": "9/10", "+.9": "9/10", "-.9": "-9/10",
		"2.5": "5/2", "-2.5": "-5/2", "02.50": "5/2", "10.10": "101/10", "3.00": "3", "0.125": "1/8", "-0.001": "-1/1000", ".000": "0", "100.": "100",
		"9e0": "9", "9E0": "9", "9e+0": "9", "9e-0": "9", "9e00": "9", "9e000": "9", "-9e-000": "-9", "9e1": "90", "9E1": "90", "9e01": "90", "9e001": "90", "9e+1": "90", "9e+01": "90", "9E+001": "90",
		"9e-1": "9/10", "9E-01": "9/10", "9e-001": "9/10", "5e-1": "1/2", "25E-2": "1/4", "9.e1": "90", ".9e1": "9", "-.9E1": "-9", "+9.9e+1": "99", "9.9e-1": "99/100", "9.99e1": "999/10", "1.25e2": "125", "1.250e1": "25/2",
		"0e0": "0", "-0e5": "0", "0.e-100": "0", ".0e100": "0", "0.000e001": "0", "-0.0E-099": "0",
		"1e99": "1" + strings.Repeat("0", 99), "1e100": "1" + strings.Repeat("0", 100), "-1E+100": "-1" + strings.Repeat("0", 100), "1e-100": "1/1" + strings.Repeat("0", 100), "-1e-100": "-1/1" + strings.Repeat("0", 100),
		".1e100": "1" + strings.Repeat("0", 99), ".1e-100": "1/1" + strings.Repeat("0", 101), "2.e-100": "1/5" + strings.Repeat("0", 99),
		"1e30": "1" + strings.Repeat("0", 30), "-1e30": "-1" + strings.Repeat("0", 30),
	} {
		if x, ok := lit.Get(s); !ok || x.Text() != want {
			t.Errorf("P4.1: Get(%q) is %s, %v, not %s", s, x.Text(), ok, want)
		}
		hold(t, s)
	}
}

func TestGetOfFractions(t *testing.T) {
	eighteen := strings.Repeat("9", 18)
	for _, s := range []string{"0", "7", "-7", "1/2", "-1/2", "7/3", "-7/3", "10/7", "1/10", "100/99", "-99/100", "1/1" + strings.Repeat("0", 37),
		eighteen + "/1" + strings.Repeat("0", 20), "-" + eighteen + "/1" + strings.Repeat("0", 19), "-" + strings.Repeat("9", 39), "1/" + strings.Repeat("9", 38), strings.Repeat("9", 38) + "/2"} {
		if x, ok := lit.Get(s); !ok || x.Text() != s {
			t.Errorf("P4.1: Get(%q) is %s, %v", s, x.Text(), ok)
		}
		hold(t, s)
	}
	for _, s := range []string{"2/4", "-2/4", "6/3", "1/1", "-1/1", "0/1", "0/5", "-0/1", "1/0", "0/0", "-1/0", "1/", "/1", "/", "-/", "1//2", "1/2/3", "+1/2", "+7/3", "--1/2", "1/-2", "1/+2", "01/2", "1/02", "007/3", "1 /2", "1/ 2",
		"1./2", "1/2.", ".5/3", "1.5/2", "1/.5", "1e1/3", "1/1e1", "1/3e1", "1/3e-1", "1/3.0", "1/inf", "1/１", "1\\2", "1÷2"} {
		if x, ok := lit.Get(s); ok || x != nil {
			t.Errorf("P4.1, P0.2: Get(%q) is %s, %v, not nil, false", s, x.Text(), ok)
		}
		hold(t, s)
	}
}

func TestGetOfNoNumber(t *testing.T) {
	for _, s := range []string{
		"", "+", "-", ".", "e", "E", "+.", "-.", "..", "e1", "E1", "+e1", "-e1", ".e1", "+.e1", "-.e-1", ".e", "+-", "-+", "++", "--",
		"++1", "--1", "+-1", "-+1", "1-", "1+", "-1-", "1-1", "1+1", "- 1", "+ 1", "1..", "..1", "1..1", "1.1.", ".1.", ".1.1", "1.1.1", "1.-1", "1.+1", ".-1", "-.-1",
		"1e", "1E", "1e+", "1e-", "1.e", ".1e", "1e.", "1e.1", "1e1.", "1e1.1", "1e++1", "1e--1", "1e+-1", "1e-+1", "1e1+", "1e1-", "1ee1", "1eE1", "1e1e1", "1e1e", "e1e1", "1e 1", "1 e1", "1e1 ",
		"1e101", "1e-101", "1E+101", "1e999", "1e-999", "1e+999", "0e101", "0e-101", ".0e999", "1e0000", "1e0001", "1e-0001", "1e+0001", "1e1000", "1e-1000", "1e0100", "1e18446744073709551616", "1e-18446744073709551617", "1e4294967296",
		" 1", "1 ", "\t1", "1\t", "1\n", "\n1", "1\r", "1\x00", "\x00", "\x001", "1 2", "1,5", "1,000", "1_000", "1_0", "_1", "1_", "1'000", "$1", "1%", "1f", "1d5", "1p5", "1i", "1n", "0x1", "0X1", "0b1", "0o7", "0x1p4", "x", "a1", "A",
		"inf", "+inf", "-inf", "Inf", "infinity", "-infinity", "nan", "NaN", "1e3x", "1e0x1", "1e1_0", "−1", "＋1", "１", "٣", "1٣", "1．5", "1e１", "1é", "½", "\xff", "1\xff", "1e\xff", "\xc0\xb1", "1．5", "1·5",
		"RHS", "/", ":", "1:", "1/", ";", "0;",
	} {
		if x, ok := lit.Get(s); ok || x != nil {
			t.Errorf("P4.1, P0.2: Get(%q) is %s, %v, not nil, false", s, x.Text(), ok)
		}
		hold(t, s)
	}
}

// 40 bytes are counted of the whole text: sign, point, stroke, exponent too.
func TestGetAtItsLength(t *testing.T) {
	nines, noughts := strings.Repeat("9", 50), strings.Repeat("0", 50)
	for _, n := range []int{38, 39, 40, 41, 42, 45} {
		for _, s := range []string{nines[:n], noughts[:n], noughts[:n-1] + "9", "+" + nines[:n-1], "-" + nines[:n-1], nines[:n-1] + ".", "." + nines[:n-1], "-." + nines[:n-2], noughts[:n/2] + "." + noughts[n/2+1:n],
			nines[:n/2] + "." + nines[n/2+1:n], "-" + nines[:n/2] + "." + nines[n/2+2:n], nines[:n-2] + "e1", nines[:n-4] + "e100", nines[:n-5] + "e+100", nines[:n-5] + "E-100", "." + nines[:n-6] + "e-100", "-." + nines[:n-7] + "e-100",
			nines[:n-4] + "e000", "1/" + nines[:n-2], "-1/" + nines[:n-3], nines[:n-2] + "/2", "-" + nines[:n-3] + "/2"} {
			if len(s) != n {
				t.Fatalf("the test is wrong: %q has %d bytes", s, len(s))
			}
			x, ok := lit.Get(s)
			if ok != (n <= 40) || ok == (x == nil) {
				t.Errorf("P4.1: Get(%q), %d bytes, is %s, %v", s, n, x.Text(), ok)
			}
			hold(t, s)
		}
	}
	for _, s := range []string{strings.Repeat("1", 1<<20), strings.Repeat("-", 1<<20), strings.Repeat(".", 1<<20), "1e" + strings.Repeat("0", 1<<20), strings.Repeat("e", 1<<20), "1/" + strings.Repeat("3", 1<<20), "1" + strings.Repeat(" ", 1<<20), strings.Repeat("\xff", 1<<20)} {
		if x, ok := lit.Get(s); ok || x != nil {
			t.Errorf("P4.1: Get of %d bytes is %v", len(s), ok)
		}
	}
}

func TestGetOfAllExponents(t *testing.T) {
	for power := -130; power <= 130; power++ {
		for _, size := range []string{"1", "-7", "2.5", ".125", "0", "+40.", "1234567890.0987654321"} {
			for _, form := range []string{"e%d", "E%d", "e%+d", "e%03d", "e%+04d"} {
				hold(t, size+fmt.Sprintf(form, power))
			}
		}
	}
	for n := range 1000 {
		for _, sign := range []string{"", "+", "-"} {
			s := fmt.Sprintf("3e%s%03d", sign, n)
			if x, ok := lit.Get(s); ok != (n <= 100) || ok == (x == nil) {
				t.Errorf("P4.1: Get(%q) is %s, %v", s, x.Text(), ok)
			}
		}
	}
}

// allTexts tells all texts of at most n of these bytes.
func allTexts(few string, n int) []string {
	texts, start := []string{""}, 0
	for range n {
		end := len(texts)
		for ; start < end; start++ {
			for k := range len(few) {
				texts = append(texts, texts[start]+few[k:k+1])
			}
		}
	}
	return texts
}

func TestGetOfAllShortTexts(t *testing.T) {
	texts := append(allTexts("+-.eE/0124 ", 5), allTexts("+-.e01", 6)...)
	for k := range 1 << 16 {
		texts = append(texts, string([]byte{byte(k >> 8), byte(k)}))
	}
	for k := range 1 << 8 {
		one := string([]byte{byte(k)})
		texts = append(texts, one, "1"+one+"1", one+"12", "12"+one, "1."+one, "1e"+one+"1", "1e1"+one, "1/"+one+"3", "1/3"+one)
	}
	for _, s := range texts {
		hold(t, s)
	}
}

// infinities are all the names of Inf.
func infinities() map[string]int {
	return map[string]int{"inf": 1, "+inf": 1, "infinity": 1, "1e30": 1, "-inf": -1, "-infinity": -1, "-1e30": -1}
}

// cases tells s with each of its letters in either case.
func cases(s string) []string {
	texts := []string{""}
	for k := range len(s) {
		lower, upper := strings.ToLower(s[k:k+1]), strings.ToUpper(s[k:k+1])
		var longer []string
		for _, text := range texts {
			longer = append(longer, text+lower)
			if upper != lower {
				longer = append(longer, text+upper)
			}
		}
		texts = longer
	}
	return texts
}

func TestInf(t *testing.T) {
	for name, want := range infinities() {
		for _, s := range cases(name) {
			if n, ok := lit.Inf(s); n != want || !ok {
				t.Errorf("P4.1: Inf(%q) is %d, %v, not %d, true", s, n, ok, want)
			}
		}
	}
}

func notInf(t *testing.T, s string) {
	t.Helper()
	if n, ok := lit.Inf(s); n != 0 || ok {
		t.Errorf("P4.1, P0.2: Inf(%q) is %d, %v, not 0, false", s, n, ok)
	}
}

func TestInfOfNothing(t *testing.T) {
	for _, s := range []string{
		"", "+", "-", "i", "in", "infi", "infinit", "infinitys", "infs", "infinf", "inf inf", " inf", "inf ", "\tinf", "inf\n", "inf\x00", "\x00inf", "--inf", "++inf", "+-inf", "-+inf", "- inf", "inf-", "-inf-",
		"+infinity", "+Infinity", "+INFINITY", "+1e30", "+1E30", "1e+30", "-1e+30", "1e030", "1e30.", "1.e30", "1.0e30", "01e30", "1e31", "1e29", "-1e31", "1e3", "1e300", "10e29", ".1e31", "1 e30", "1e 30", "1e100", "-1e100", "2e30", "1f30",
		"1000000000000000000000000000000", "-1000000000000000000000000000000", "0", "1", "-1", "30", "1/0", "nan", "NaN", "none", "infty", "infinite", "unbounded", "max", "∞", "-∞", "−inf", "＋inf",
		// Their lower case, or what they look like, is within ASCII.
		"İnf", "İNF", "ınf", "ıNF", "-İnf", "+ınf", "İnfinity", "inf\u0131nity", "infin\u0130ty", "іnf", "ｉｎｆ", "ｉnf", "ﬁ", "inﬁnity", "ⅰnf", "1е30", "1Е30", "１e30", "1e３0", "i\u0307nf", "inf\u0307", "infinitʏ", "infinitỳ",
		"\xff", "inf\xff", "\xffinf", "i\xffnf", "in\xc6", "\x89nf", "\xe9nf",
	} {
		notInf(t, s)
	}
	for _, s := range []string{strings.Repeat("inf", 1<<19), "inf" + strings.Repeat(" ", 1<<20), strings.Repeat("-", 1<<20) + "inf", "1e30" + strings.Repeat("0", 1<<20)} {
		if n, ok := lit.Inf(s); n != 0 || ok {
			t.Errorf("P4.1: Inf of %d bytes is %d, %v", len(s), n, ok)
		}
	}
}

// A byte more, a byte less or another byte is no name of Inf.
func TestInfOfTextsNearby(t *testing.T) {
	near := func(s string) {
		if infinities()[strings.ToLower(s)] == 0 {
			notInf(t, s)
		}
	}
	for name := range infinities() {
		for k := 0; k <= len(name); k++ {
			for b := range 256 {
				other := string([]byte{byte(b)})
				near(name[:k] + other + name[k:])
				if k < len(name) {
					near(name[:k] + other + name[k+1:])
					near(name[:k] + name[k+1:])
				}
			}
		}
	}
}

// Get has no infinities: 1e30 is a number there, whatever Inf tells.
func TestGetOfInfinities(t *testing.T) {
	for name, sign := range infinities() {
		for _, s := range cases(name) {
			x, ok := lit.Get(s)
			if number := strings.HasSuffix(name, "30"); ok != number || number && x.Sign() != sign || !number && x != nil {
				t.Errorf("P4.1: Get(%q) is %s, %v", s, x.Text(), ok)
			}
		}
	}
}

// A nought that was written with a sign is the one nought there is.
func TestNoughtHasNoSign(t *testing.T) {
	for _, s := range []string{"-0", "-0.0", "-.0", "-0.", "-0e9", "-0e-9", "-000.000E+100"} {
		x, ok := lit.Get(s)
		if neg, n, d := x.Parts(); !ok || x.Sign() != 0 || neg || n.Text() != "0" || d.Text() != "1" || x.Cmp(frac.Of(0)) != 0 {
			t.Errorf("P4.1: Get(%q) is %s, %v", s, x.Text(), ok)
		}
	}
}

// Who writes over one answer changes no other one.
func TestAnswersAreNewMemory(t *testing.T) {
	for _, s := range []string{"0", "-0", "1", "+1", "1.5", "7/3", "1e100", "-1e-100", "0.0e0", strings.Repeat("9", 40)} {
		first, _ := lit.Get(s)
		second, _ := lit.Get(s)
		want := second.Text()
		*first = *frac.Of(77)
		third, _ := lit.Get(s)
		if second.Text() != want || third.Text() != want {
			t.Errorf("P0.3, P0.5: answers of Get(%q) share memory", s)
		}
	}
}
