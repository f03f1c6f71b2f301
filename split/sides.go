package split

import (
	"victualler/api"
	"victualler/frac"
)

// side is one side on which a row is bound; of REqual without a Range it is both.
type side struct {
	kind int
	rhs  string
}

func (s side) row(name string, cs []api.Coef) api.Row {
	return api.Row{Name: name, Kind: s.kind, Coef: cs, Rhs: s.rhs}
}

// sidesOf are the rows that a row of a core becomes, as many as height counts.
func sidesOf(row api.Row) []side {
	own := side{row.Kind, row.Rhs}
	if row.Range == "" {
		return []side{own}
	}
	rhs, _ := frac.Get(row.Rhs)
	span, _ := frac.Get(row.Range)
	switch {
	case row.Kind == api.RLess:
		return []side{own, {api.RMore, rhs.Sub(size(span)).Text()}}
	case row.Kind == api.RMore:
		return []side{own, {api.RLess, rhs.Add(size(span)).Text()}}
	case span.Sign() < 0:
		return []side{{api.RMore, rhs.Add(span).Text()}, {api.RLess, row.Rhs}}
	}
	return []side{{api.RMore, row.Rhs}, {api.RLess, rhs.Add(span).Text()}}
}

func size(x *frac.Frac) *frac.Frac {
	if x.Sign() < 0 {
		return x.Neg()
	}
	return x
}

// height is how many rows these become.
func height(rows []api.Row) int {
	count := len(rows)
	for _, row := range rows {
		if row.Range != "" {
			count++
		}
	}
	return count
}
