package matrix_test

import (
	"math"
	"slices"
	"testing"

	"strongroom/api"
	"strongroom/gf"
	"strongroom/matrix"
)

func TestP7_6Examples(t *testing.T) {
	f := mod(t, 7)
	x, e := made(t, f, 2, 2, 1, 2, 3, 4).Inverse()
	check(t, "Inverse", x, e, 2, 2, 5, 1, 5, 3)
	if x, e := made(t, f, 2, 2, 1, 2, 2, 4).Inverse(); x != nil || e != api.ErrSingular {
		t.Error(e)
	}
}

// inverses holds Inverse against determinants: there is one just if that of the whole is not Zero, and its elements are quotients of them.
func (s suite[E]) inverses(t *testing.T) {
	singular := 0
	for seed := range 120 {
		n := 1 + seed%5
		m := s.matrix(t, n, n, seed)
		x, e := m.Inverse()
		whole, is := s.f.Inverse(determinant(s.f, inRows(m)))
		if !is {
			singular++
			if x != nil || e != api.ErrSingular {
				t.Error(seed, e)
			}
			continue
		}
		if e != api.OK || x.Rows() != n || x.Cols() != n {
			t.Fatal(seed, e)
		}
		for i := range n * n {
			want := s.f.Mul(whole, s.cofactor(inRows(m), i%n, i/n))
			if got, _ := x.At(i/n, i%n); got != want {
				t.Error(seed, i/n, i%n, got, want)
			}
		}
	}
	if singular == 0 || singular == 120 {
		t.Error("all matrices of one kind", singular)
	}
}

// cofactor gives the determinant without a row and a column, with its sign.
func (s suite[E]) cofactor(rows [][]E, row, col int) E {
	var rest [][]E
	for i := range rows {
		if i != row {
			rest = append(rest, slices.Concat(rows[i][:col], rows[i][col+1:]))
		}
	}
	d := determinant(s.f, rest)
	if (row+col)%2 == 1 {
		return s.f.Sub(s.f.Zero(), d)
	}
	return d
}

func TestP7_6(t *testing.T) { overFields(t, tries.inverses) }

func TestP7_6Edges(t *testing.T) {
	f := mod(t, 7)
	x, e := made(t, f, 1, 1, 3).Inverse()
	check(t, "one element", x, e, 1, 1, 5)
	if x, e := made(t, f, 1, 1, 7).Inverse(); x != nil || e != api.ErrSingular {
		t.Error("nought", e)
	}
	x, e = made(t, f, 3, 3, 0, 0, 2, 0, 3, 0, 1, 0, 0).Inverse() // the rows must change places
	check(t, "turned round", x, e, 3, 3, 0, 0, 1, 0, 5, 0, 4, 0, 0)
	for _, d := range [][2]int{{1, 2}, {2, 1}, {3, 2}, {256, 255}} {
		m := made(t, f, d[0], d[1], make([]uint32, d[0]*d[1])...)
		if x, e := m.Inverse(); x != nil || e != api.ErrDims {
			t.Error(d, e)
		}
	}
	for _, none := range notMade() {
		if x, e := none.Inverse(); x != nil || e != api.ErrNil {
			t.Error(e)
		}
	}
}

func TestP7_6Greatest(t *testing.T) {
	// The element in row i and column j of a matrix after Cauchy is the inverse of the sum of two numbers that are all unlike.
	f := mod(t, 65537)
	n := 256
	elems := make([]uint32, 0, n*n)
	for i := range n * n {
		x, _ := f.Inverse(uint32(i/n + 1000 + i%n))
		elems = append(elems, x)
	}
	m := made(t, f, n, n, elems...)
	x, e := m.Inverse()
	if e != api.OK {
		t.Fatal(e)
	}
	one := must[*numbersMatrix](t)(matrix.Identity(f, n))
	if p, e := m.Mul(x); e != api.OK || !p.Same(one) {
		t.Error(e)
	}
	if m.Rank() != n {
		t.Error(m.Rank())
	}
}

// ranks holds Rank against the greatest determinant that is not Zero.
func (s suite[E]) ranks(t *testing.T) {
	var met [5]int
	for seed := range 600 {
		rows, cols := 1+seed%4, 1+seed/4%4
		m := s.matrix(t, rows, cols, seed)
		if seed%3 == 0 && rows > 1 { // with a row that comes out of two others
			m = s.mixed(t, m, seed)
		}
		want := minors(s.f, inRows(m), cols)
		if got := m.Rank(); got != want {
			t.Error(seed, got, want, elements(m))
		}
		met[want]++
	}
	if slices.Contains(met[:], 0) {
		t.Error("not all ranks were met:", met)
	}
}

// mixed gives a matrix whose last row is a multiple of its first, and one of another, added up.
func (s suite[E]) mixed(t *testing.T, m *matrix.Matrix[E], seed int) *matrix.Matrix[E] {
	t.Helper()
	rows := inRows(m)
	last := len(rows) - 1
	by := s.list(2, seed+50)
	for j := range rows[last] {
		rows[last][j] = s.f.Add(s.f.Mul(by[0], rows[0][j]), s.f.Mul(by[1], rows[last/2][j]))
	}
	return made(t, s.f, m.Rows(), m.Cols(), slices.Concat(rows...)...)
}

func TestP7_7(t *testing.T) { overFields(t, tries.ranks) }

func TestP7_7Edges(t *testing.T) {
	f := mod(t, 7)
	for _, c := range []struct {
		rows, cols, rank int
		elems            []uint32
	}{
		{2, 2, 1, []uint32{1, 2, 2, 4}},
		{2, 2, 2, []uint32{1, 2, 3, 4}},
		{1, 1, 0, []uint32{14}},
		{1, 3, 1, []uint32{0, 0, 5}},
		{3, 1, 1, []uint32{0, 0, 5}},
		{2, 3, 1, []uint32{0, 0, 1, 0, 0, 3}},
		{2, 3, 2, []uint32{0, 1, 0, 0, 0, 3}},
		{3, 2, 2, []uint32{1, 1, 2, 2, 0, 1}},
		{256, 256, 0, make([]uint32, 1<<16)},
		{256, 256, 1, slices.Repeat([]uint32{6}, 1<<16)},
	} {
		if got := made(t, f, c.rows, c.cols, c.elems...).Rank(); got != c.rank {
			t.Error(c.rows, c.cols, got, c.rank)
		}
	}
	// The same numbers, of two fields.
	if a, b := made(t, f, 2, 2, 1, 2, 3, 13).Rank(), made(t, mod(t, 11), 2, 2, 1, 2, 3, 13).Rank(); a != 1 || b != 2 {
		t.Error(a, b)
	}
}

func TestP7_8Examples(t *testing.T) {
	m := made(t, mod(t, 7), 2, 2, 1, 2, 3, 4)
	v, stays := roomy([]uint32{3, 0}, 9)
	if x, e := m.Solve(v); !slices.Equal(x, []uint32{1, 1}) || e != api.OK || !stays() {
		t.Error(x, e)
	}
	if x, e := m.Solve([]uint32{math.MaxUint32, 14}); !slices.Equal(x, []uint32{1, 1}) || e != api.OK { // what remains is 3 and 0
		t.Error(x, e)
	}
	if x, e := made(t, texts{t}, 1, 1, "#2").Solve([]string{"13"}); !slices.Equal(x, []string{"#4"}) || e != api.OK {
		t.Error(x, e)
	}
}

func TestP7_8Refused(t *testing.T) {
	f := mod(t, 7)
	for _, d := range [][3]int{{1, 2, 1}, {1, 2, 2}, {2, 1, 2}, {2, 1, 1}, {2, 2, 1}, {2, 2, 3}, {2, 2, 0}, {256, 255, 256}} {
		m := made(t, f, d[0], d[1], make([]uint32, d[0]*d[1])...) // singular, too
		if x, e := m.Solve(make([]uint32, d[2])); x != nil || e != api.ErrDims {
			t.Error(d, e)
		}
	}
	low := made(t, f, 2, 2, 1, 2, 2, 4)
	for _, v := range [][]uint32{{0, 0}, {1, 2}, {1, 3}} { // of some of them there would be columns, but not one
		if x, e := low.Solve(v); x != nil || e != api.ErrSingular {
			t.Error(v, x, e)
		}
	}
	for _, none := range notMade() {
		for n := range 3 {
			if x, e := none.Solve(make([]uint32, n)); x != nil || e != api.ErrNil {
				t.Error(n, e)
			}
		}
	}
}

// solutions holds Solve, Inverse and Rank against each other (P7.8, P7.12).
func (s suite[E]) solutions(t *testing.T) {
	for seed := range 150 {
		n := 1 + seed%7
		m := s.matrix(t, n, n, seed)
		v := s.list(n, seed+1000)
		x, e := m.Solve(v)
		_, g := m.Inverse()
		if (e == api.OK) != (m.Rank() == n) || e != g {
			t.Error(seed, e, g, m.Rank())
		}
		if e != api.OK {
			if e != api.ErrSingular || x != nil {
				t.Error(seed, e, x)
			}
			continue
		}
		if got, e := m.Times(x); e != api.OK || !slices.Equal(got, v) {
			t.Error(seed, e, got, v)
		}
	}
}

func TestP7_8(t *testing.T)  { overFields(t, tries.solutions) }
func TestP7_12(t *testing.T) { overFields(t, tries.solutions) }

// groupings tries P7.11.
func (s suite[E]) groupings(t *testing.T) {
	must := must[*matrix.Matrix[E]](t)
	for seed := range 30 {
		k, l, m, n := 1+seed%3, 1+seed%4, 1+seed%5, 1+seed%6
		a, b, c := s.matrix(t, k, l, seed), s.matrix(t, l, m, seed+100), s.matrix(t, m, n, seed+200)
		if !must(must(a.Mul(b)).Mul(c)).Same(must(a.Mul(must(b.Mul(c))))) {
			t.Error("grouping", seed)
		}
		left, right := must(matrix.Identity(s.f, k)), must(matrix.Identity(s.f, l))
		if !must(left.Mul(a)).Same(a) || !must(a.Mul(right)).Same(a) {
			t.Error("Identity", seed)
		}
		full := s.turned(t, n, seed)
		x, one := must(full.Inverse()), must(matrix.Identity(s.f, n))
		if !must(x.Mul(full)).Same(one) || !must(full.Mul(x)).Same(one) {
			t.Error("times its inverse", seed)
		}
		if !must(x.Inverse()).Same(full) {
			t.Error("there and back", seed)
		}
	}
}

func TestP7_11(t *testing.T) { overFields(t, tries.groupings) }

// turnedProducts tries P7.13.
func (s suite[E]) turnedProducts(t *testing.T) {
	must := must[*matrix.Matrix[E]](t)
	for seed := range 30 {
		n := 1 + seed%6
		a, b := s.turned(t, n, seed), s.turned(t, n, seed+100)
		if !must(must(a.Mul(b)).Inverse()).Same(must(must(b.Inverse()).Mul(must(a.Inverse())))) {
			t.Error(seed)
		}
	}
}

func TestP7_13(t *testing.T) { overFields(t, tries.turnedProducts) }

func TestBytes(t *testing.T) {
	m := made(t, gf.Field{}, 2, 2, 1, 2, 3, 4)
	x := must[*matrix.Matrix[byte]](t)(m.Inverse())
	if p, e := m.Mul(x); e != api.OK || !slices.Equal(elements(p), []byte{1, 0, 0, 1}) {
		t.Error(e, elements(p))
	}
}
