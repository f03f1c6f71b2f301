package mat

import (
	"slices"

	"victualler/frac"
)

// equations are solved by elimination. Each line has the numbers of the
// unknowns, then its right sides, of which each is a question of its own.
type equations struct {
	lines    []line
	unknowns int
	// The first lines are done with: of each the unknown that it tells, which
	// has a 1 there and no number in any line behind.
	told []int
}

// beside sets the right sides behind the lines of m; they are as many.
func (m *Mat) beside(right []line) *equations {
	e := &equations{lines: slices.Clone(m.all())}
	_, e.unknowns = m.Size()
	for i := range e.lines {
		e.lines[i] = slices.Concat(e.lines[i], right[i])
	}
	return e
}

// eliminate goes on until no line that is left has an unknown.
func (e *equations) eliminate() {
	for {
		at, unknown, ok := e.pick()
		if !ok {
			return
		}
		e.tell(at, unknown)
	}
}

// tell takes an unknown out of all lines that are left by the one at a place.
func (e *equations) tell(at, unknown int) {
	rest := e.lines[len(e.told):]
	rest[0], rest[at] = rest[at], rest[0]
	rest[0] = rest[0].over(rest[0][unknown])
	for _, l := range rest[1:] {
		l.add(l[unknown].Neg(), rest[0])
	}
	e.told = append(e.told, unknown)
}

// pick names a number among the lines that are left, by its place there and its
// unknown; false: there is none. Of all of them it is one that can fill the
// fewest noughts (Markowitz's rule), for what stays 0 costs nothing later.
func (e *equations) pick() (at, unknown int, ok bool) {
	rest := e.lines[len(e.told):]
	inLine, inColumn := e.counts(rest)
	least := 0
	for i, l := range rest {
		for k, x := range l[:e.unknowns] {
			if x.Sign() == 0 {
				continue
			}
			fill := (inLine[i] - 1) * (inColumn[k] - 1)
			if !ok || fill < least {
				at, unknown, least, ok = i, k, fill, true
			}
		}
	}
	return at, unknown, ok
}

// counts tells of each line and each unknown how many numbers are not 0.
func (e *equations) counts(rest []line) (inLine, inColumn []int) {
	inLine, inColumn = make([]int, len(rest)), make([]int, e.unknowns)
	for i, l := range rest {
		for k, x := range l[:e.unknowns] {
			if x.Sign() != 0 {
				inLine[i]++
				inColumn[k]++
			}
		}
	}
	return inLine, inColumn
}

// answers are the lines of the unknowns, one behind the other, if there is just
// one answer to each question.
func (e *equations) answers() ([]line, bool) {
	e.eliminate()
	if len(e.told) < e.unknowns {
		return nil, false
	}
	// Behind the unknowns' lines nothing is left but that 0 is the right side.
	for _, l := range e.lines[e.unknowns:] {
		if !l.empty() {
			return nil, false
		}
	}
	e.putBack()
	x := make([]line, e.unknowns)
	for i, unknown := range e.told {
		x[unknown] = slices.Clone(e.lines[i][e.unknowns:])
	}
	return x, true
}

// putBack puts what later lines tell into the earlier ones' right sides.
func (e *equations) putBack() {
	for i := len(e.told) - 1; i >= 0; i-- {
		l := e.lines[i]
		for k := i + 1; k < len(e.told); k++ {
			l[e.unknowns:].add(l[e.told[k]].Neg(), e.lines[k][e.unknowns:])
		}
	}
}

// Rank: see the chapter.
func (m *Mat) Rank() int {
	e := m.beside(make([]line, len(m.all())))
	e.eliminate()
	return len(e.told)
}

// Inverse: see the chapter.
func (m *Mat) Inverse() (*Mat, bool) {
	rows, cols := m.Size()
	if rows != cols {
		return nil, false
	}
	units := make([]line, rows)
	for i := range units {
		units[i] = noughts(rows)
		units[i][i] = frac.Of(1)
	}
	lines, ok := m.beside(units).answers()
	if !ok {
		return nil, false
	}
	return &Mat{lines, rows}, true
}

// Solve: see the chapter.
func (m *Mat) Solve(b []*frac.Frac) ([]*frac.Frac, bool) {
	if rows, _ := m.Size(); len(b) != rows {
		return nil, false
	}
	right := make([]line, len(b))
	for i, y := range b {
		// Where nothing is left to do for it, it stands in the answer as it is.
		right[i] = line{copied(y)}
	}
	lines, ok := m.beside(right).answers()
	if !ok {
		return nil, false
	}
	x := make([]*frac.Frac, len(lines))
	for k, l := range lines {
		x[k] = l[0]
	}
	return x, true
}
