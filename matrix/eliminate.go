package matrix

import (
	"slices"

	"strongroom/api"
)

// Inverse gives the matrix that, times m, is the identity.
func (m *Matrix[E]) Inverse() (*Matrix[E], api.Errno) {
	if !m.made() {
		return nil, api.ErrNil
	}
	if m.rows != m.cols {
		return nil, api.ErrDims
	}
	solved, e := m.solved(func(i int) []E { return unit(m.field, m.rows, i) })
	if e != api.OK {
		return nil, e
	}
	return &Matrix[E]{m.field, m.rows, m.cols, slices.Concat(solved...)}, api.OK
}

// Solve gives the column that, times m, is v.
func (m *Matrix[E]) Solve(v []E) ([]E, api.Errno) {
	if !m.made() {
		return nil, api.ErrNil
	}
	if m.rows != m.cols || len(v) != m.rows {
		return nil, api.ErrDims
	}
	column := taken(m.field, v)
	solved, e := m.solved(func(i int) []E { return column[i : i+1] })
	if e != api.OK {
		return nil, e
	}
	return slices.Concat(solved...), api.OK
}

// solved gives the rows of the matrix that m, which has as many rows as columns, must be multiplied with to give the one whose rows beside tells.
func (m *Matrix[E]) solved(beside func(row int) []E) ([][]E, api.Errno) {
	rows := make([][]E, m.rows)
	for i := range rows {
		rows[i] = slices.Concat(m.row(i), beside(i))
	}
	if eliminate(m.field, rows, m.cols) < m.cols {
		return nil, api.ErrSingular
	}
	for i, row := range rows {
		rows[i] = row[m.cols:]
	}
	return rows, api.OK
}

// Rank tells how many rows are left that do not come out of one another.
func (m *Matrix[E]) Rank() int {
	if !m.made() {
		return 0
	}
	rows := make([][]E, m.rows)
	for i := range rows {
		rows[i] = slices.Clone(m.row(i))
	}
	return eliminate(m.field, rows, m.cols)
}

// eliminate changes the rows, by adding multiples of them to one another, until as many of the first columns as can be have One in a row of their own, from the top down, and Zero in all others. It tells how many these are. What stands behind the first columns goes along.
func eliminate[E comparable](f Field[E], rows [][]E, cols int) int {
	top := 0
columns:
	for col := range cols {
		for i := top; i < len(rows); i++ {
			turned, is := f.Inverse(rows[i][col])
			if !is {
				continue
			}
			rows[top], rows[i] = rows[i], rows[top]
			sweep(f, rows, top, col, turned)
			top++
			continue columns
		}
	}
	return top
}

// sweep makes the element of the row at in the column One, by what it must be multiplied with, and those of the other rows Zero.
func sweep[E comparable](f Field[E], rows [][]E, at, col int, turned E) {
	zero := f.Zero()
	from := rows[at]
	// Where this row has Zero the others stay as they are: half of an inverse's work is saved.
	var places []int
	for j, x := range from {
		if !alike(x, zero) {
			from[j] = f.Mul(x, turned)
			places = append(places, j)
		}
	}
	for i, row := range rows {
		times := row[col]
		if i == at || alike(times, zero) {
			continue
		}
		for _, j := range places {
			row[j] = f.Sub(row[j], f.Mul(times, from[j]))
		}
	}
}
