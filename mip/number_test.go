package mip

import (
	"testing"

	"victualler/frac"
)

// Each text of frac is read back, however long it is.
func TestNumber(t *testing.T) {
	third, _ := frac.Get("1/3")
	x := frac.Of(-7)
	for range 60 {
		for _, y := range []*frac.Frac{x, x.Neg(), x.Add(third), x.Sub(third).Neg()} {
			if got := number(y.Text()); got.Cmp(y) != 0 || got.Text() != y.Text() {
				t.Fatalf("a number of %d bytes is read as another one", len(y.Text()))
			}
		}
		x = x.Mul(x.Add(third)).Mul(frac.Of(1_000_000_007))
		if len(x.Text()) > 9000 {
			x = frac.Of(int64(len(x.Text())))
		}
	}
	for _, s := range []string{"0", "1", "-1", "9", "10", "999999999999999999", "1000000000000000000", "1000000000000000001", "-1/1000000000000000000000000000000000000", "100000000000000000000000000000000000001/2"} {
		if got := number(s).Text(); got != s {
			t.Errorf("%s is read as %s", s, got)
		}
	}
}
