package matrix_test

import (
	"slices"
	"strconv"
	"strings"
	"testing"

	"strongroom/api"
	"strongroom/gf"
	"strongroom/matrix"
)

// mod gives the field of a prime.
func mod(t *testing.T, p uint32) *matrix.Mod {
	t.Helper()
	f, e := matrix.NewMod(p)
	if e != api.OK {
		t.Fatal(p, e)
	}
	return f
}

// texts is the field of 5, told as decimal texts with a mark: its Zero is not the zero value of its type. A text without the mark counts as the number that it tells when it is added, and must not come in elsewhere.
type texts struct{ t *testing.T }

func (f texts) read(s string) int {
	if len(s) != 2 || s[0] != '#' {
		f.t.Error("no element:", s)
		return 0
	}
	return int(s[1] - '0')
}

func (texts) tell(n int) string { return "#" + strconv.Itoa((n%5+5)%5) }
func (f texts) Zero() string    { return f.tell(0) }
func (f texts) One() string     { return f.tell(1) }
func (f texts) Add(a, b string) string {
	if !strings.HasPrefix(a, "#") { // a number that was handed in
		n, _ := strconv.Atoi(a)
		a = f.tell(n)
	}
	return f.tell(f.read(a) + f.read(b))
}
func (f texts) Sub(a, b string) string { return f.tell(f.read(a) - f.read(b)) }
func (f texts) Mul(a, b string) string { return f.tell(f.read(a) * f.read(b)) }
func (f texts) Inverse(a string) (string, bool) {
	for n := range 5 {
		if f.read(a)*n%5 == 1 {
			return f.tell(n), true
		}
	}
	return "", false
}

// square is the field of 49 elements: those of 7, and a root of -1 beside them.
type square struct{}

func (square) Zero() [2]int { return [2]int{} }
func (square) One() [2]int  { return [2]int{1} }
func (square) Add(a, b [2]int) [2]int {
	return [2]int{(a[0] + b[0]) % 7, (a[1] + b[1]) % 7}
}
func (square) Sub(a, b [2]int) [2]int {
	return [2]int{(a[0] - b[0] + 7) % 7, (a[1] - b[1] + 7) % 7}
}
func (square) Mul(a, b [2]int) [2]int {
	return [2]int{(a[0]*b[0] + 6*a[1]*b[1]) % 7, (a[0]*b[1] + a[1]*b[0]) % 7}
}
func (f square) Inverse(a [2]int) ([2]int, bool) {
	for n := range 49 {
		if x := [2]int{n / 7, n % 7}; f.Mul(a, x) == f.One() {
			return x, true
		}
	}
	return [2]int{}, false
}

// chance gives numbers that hang on the seed.
func chance(seed int) func(below int) int {
	x := uint32(seed)*2654435761 + 12345
	return func(below int) int {
		x = x*1664525 + 1013904223
		return int(x>>8) % below
	}
}

func made[E comparable](t *testing.T, f matrix.Field[E], rows, cols int, elems ...E) *matrix.Matrix[E] {
	t.Helper()
	m, e := matrix.New(f, rows, cols, elems)
	if e != api.OK {
		t.Fatal(rows, cols, e)
	}
	return m
}

// must gives what a call answers that must not be refused.
func must[X any](t *testing.T) func(X, api.Errno) X {
	return func(x X, e api.Errno) X {
		t.Helper()
		if e != api.OK {
			t.Fatal("refused:", e)
		}
		return x
	}
}

// elements gives those of a matrix, by At.
func elements[E comparable](m *matrix.Matrix[E]) []E {
	var all []E
	for i := range m.Rows() {
		for j := range m.Cols() {
			x, _ := m.At(i, j)
			all = append(all, x)
		}
	}
	return all
}

// check fails if the matrix has not these dimensions and elements.
func check[E comparable](t *testing.T, what string, m *matrix.Matrix[E], e api.Errno, rows, cols int, want ...E) {
	t.Helper()
	if e != api.OK || m.Rows() != rows || m.Cols() != cols || !slices.Equal(elements(m), want) {
		t.Error(what, e, m.Rows(), m.Cols(), elements(m), "want", rows, cols, want)
	}
}

// determinant is worked out along the first row, so that nothing is divided.
func determinant[E comparable](f matrix.Field[E], rows [][]E) E {
	if len(rows) == 0 {
		return f.One()
	}
	sum := f.Zero()
	for col, x := range rows[0] {
		var rest [][]E
		for _, row := range rows[1:] {
			rest = append(rest, slices.Concat(row[:col], row[col+1:]))
		}
		part := f.Mul(x, determinant(f, rest))
		if col%2 == 0 {
			sum = f.Add(sum, part)
		} else {
			sum = f.Sub(sum, part)
		}
	}
	return sum
}

// inRows gives the elements of a matrix, row by row.
func inRows[E comparable](m *matrix.Matrix[E]) [][]E {
	return slices.Collect(slices.Chunk(elements(m), m.Cols()))
}

// minors tells the greatest number of rows and columns whose determinant is not Zero: the rank.
func minors[E comparable](f matrix.Field[E], rows [][]E, cols int) int {
	rank := 0
	for chosen := range 1 << len(rows) {
		for across := range 1 << cols {
			var part [][]E
			for i, row := range rows {
				if chosen>>i&1 == 1 {
					part = append(part, picked(row, across))
				}
			}
			if len(part) > rank && len(part[0]) == len(part) && determinant(f, part) != f.Zero() {
				rank = len(part)
			}
		}
	}
	return rank
}

func picked[E comparable](row []E, across int) []E {
	var part []E
	for j, x := range row {
		if across>>j&1 == 1 {
			part = append(part, x)
		}
	}
	return part
}

// suite is what is tried over one field, whatever the type of its elements.
type suite[E comparable] struct {
	f       matrix.Field[E]
	element func(n int) E
}

type tries interface {
	products(t *testing.T)
	inverses(t *testing.T)
	ranks(t *testing.T)
	groupings(t *testing.T)
	solutions(t *testing.T)
	turnedProducts(t *testing.T)
}

// overFields tries the same over fields of several types.
func overFields(t *testing.T, try func(s tries, t *testing.T)) {
	t.Run("2", func(t *testing.T) { try(suite[uint32]{mod(t, 2), number}, t) })
	t.Run("7", func(t *testing.T) { try(suite[uint32]{mod(t, 7), number}, t) })
	t.Run("2^31 - 1", func(t *testing.T) { try(suite[uint32]{mod(t, 1<<31-1), number}, t) })
	t.Run("256", func(t *testing.T) { try(suite[byte]{gf.Field{}, func(n int) byte { return byte(n) }}, t) })
	t.Run("texts", func(t *testing.T) { try(suite[string]{texts{t}, texts{t}.tell}, t) })
	t.Run("49", func(t *testing.T) { try(suite[[2]int]{square{}, pair}, t) })
}

func number(n int) uint32 { return uint32(n) * 3141592653 }
func pair(n int) [2]int   { return [2]int{n % 7, n / 7 % 7} }

// matrix gives one of elements that hang on the seed, about a third of them Zero.
func (s suite[E]) matrix(t *testing.T, rows, cols, seed int) *matrix.Matrix[E] {
	t.Helper()
	return made(t, s.f, rows, cols, s.list(rows*cols, seed)...)
}

func (s suite[E]) list(n, seed int) []E {
	next := chance(seed)
	out := make([]E, n)
	for i := range out {
		if out[i] = s.f.Zero(); next(3) > 0 {
			out[i] = s.f.Add(s.element(next(1<<20)), s.f.Zero())
		}
	}
	return out
}

// turned gives a matrix that has an inverse.
func (s suite[E]) turned(t *testing.T, n, seed int) *matrix.Matrix[E] {
	t.Helper()
	for ; ; seed += 1000 {
		if m := s.matrix(t, n, n, seed); determinant(s.f, inRows(m)) != s.f.Zero() {
			return m
		}
	}
}
