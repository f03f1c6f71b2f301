package write_test

import (
	"fmt"
	"slices"
	"strings"
	"testing"

	"victualler/api"
	"victualler/period"
	"victualler/write"
)

func keepsTime(t *testing.T, name string, ps []api.Period) {
	t.Helper()
	text, ok := write.Time(name, ps)
	got, list, line, e := period.Get(text)
	if !ok || e != api.OK || line != 0 || got != name || !slices.Equal(list, ps) {
		t.Errorf("V1: Time(%q, %v): %v, then line %d, error %d: %.3000q", name, ps, ok, line, e, text)
	}
}

func refusesTime(t *testing.T, name string, ps []api.Period) {
	t.Helper()
	if text, ok := write.Time(name, ps); ok || text != "" {
		t.Errorf("P11.1: Time(%.50q, %.300q): %v, %.300q", name, fmt.Sprint(ps), ok, text)
	}
}

// periods are so many, all different.
func periods(n int) []api.Period {
	var ps []api.Period
	for k := range n {
		ps = append(ps, api.Period{Col: fmt.Sprint("x", k), Row: fmt.Sprint("r", k), Name: fmt.Sprint("p", k)})
	}
	return ps
}

// A period's three names, by their places.
func nameOf(p *api.Period, place int) *string {
	return []*string{&p.Col, &p.Row, &p.Name}[place]
}

func TestTimesNames(t *testing.T) {
	for _, name := range append(names(), "RHS", "'MARKER'") {
		keepsTime(t, name, nil)
		keepsTime(t, name, periods(2))
		keepsTime(t, "T", slices.Repeat([]api.Period{{Col: name, Row: name, Name: name}}, 3))
		for place := range 3 {
			ps := periods(3)
			*nameOf(&ps[1], place) = name
			keepsTime(t, "T", ps)
		}
	}
	for _, name := range wrongNames() {
		refusesTime(t, name, nil)
		refusesTime(t, name, periods(2))
		refusesTime(t, name, periods(21))
		for n := 1; n <= 20; n++ {
			for at := range n {
				for place := range 3 {
					ps := periods(n)
					*nameOf(&ps[at], place) = name
					refusesTime(t, "T", ps)
				}
			}
		}
	}
}

func TestTimesLength(t *testing.T) {
	keepsTime(t, "T", nil)
	keepsTime(t, "T", []api.Period{})
	for n := range 21 {
		keepsTime(t, "T", periods(n))
		keepsTime(t, name20, slices.Repeat([]api.Period{{Col: name20, Row: name20, Name: name20}}, n))
	}
	for _, n := range []int{21, 22, 40, 100, 1 << 20} {
		refusesTime(t, "T", slices.Repeat(periods(1), n))
		refusesTime(t, "T", make([]api.Period, n))
	}
	refusesTime(t, "", nil)
	refusesTime(t, "T", make([]api.Period, 1))
	refusesTime(t, "T", []api.Period{{Col: "x", Row: "r"}})
}

func TestTimeOfThrownPeriods(t *testing.T) {
	d, all := dice(3), append(names(), "RHS", "'MARKER'")
	for range 3000 {
		var ps []api.Period
		for range d.below(21) {
			ps = append(ps, api.Period{Col: d.of(all...), Row: d.of(all...), Name: d.of(all...)})
		}
		keepsTime(t, d.of(all...), ps)
	}
}

func TestTimeChangesAndKeepsNothing(t *testing.T) {
	for _, n := range []int{0, 1, 2, 20, 21} {
		ps := append(periods(n), api.Period{Name: "spare"}, api.Period{Name: "room"})
		was := fmt.Sprint(ps)
		text, ok := write.Time("T", ps[:n])
		if fmt.Sprint(ps) != was {
			t.Errorf("P0.3: Time changes what it is handed: %v, not %s", ps, was)
		}
		shown := strings.Clone(text)
		clear(ps)
		write.Time("U", periods(3))
		if again, same := write.Time("T", periods(n)); again != shown || text != shown || same != ok {
			t.Errorf("P0.5: Time of %d periods: %q, %q, %q", n, shown, text, again)
		}
	}
}
