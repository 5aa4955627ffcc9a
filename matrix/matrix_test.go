package matrix_test

import (
	"math"
	"slices"
	"testing"

	"strongroom/api"
	"strongroom/gf"
	"strongroom/matrix"
)

type numbersMatrix = matrix.Matrix[uint32]

// roomy gives the list with spare room behind it, and a function that tells whether both are as they were.
func roomy[E comparable](list []E, fill E) ([]E, func() bool) {
	all := append(slices.Clone(list), fill, fill, fill)
	was := slices.Clone(all)
	return all[:len(list)], func() bool { return slices.Equal(all, was) }
}

// spoil overwrites a list and its spare room.
func spoil(l []uint32) {
	l = l[:cap(l)]
	for i := range l {
		l[i] += 3
	}
}

// notMade gives matrices that no function of the package made.
func notMade() []*numbersMatrix { return []*numbersMatrix{nil, {}, new(numbersMatrix)} }

// counting gives the numbers from 0 to n - 1.
func counting(n int) []uint32 {
	out := make([]uint32, n)
	for i := range out {
		out[i] = uint32(i)
	}
	return out
}

// edges gives numbers that are none of a row or column when there are n of them.
func edges(n int) []int { return []int{-1, n, n + 1, math.MinInt, math.MaxInt, -n, 1 << 32} }

// badDims gives numbers that no dimension may have.
func badDims() []int { return []int{0, -1, 257, 512, math.MinInt, math.MaxInt, 1 << 32, 1 << 62} }

func TestP7_2New(t *testing.T) {
	f := mod(t, 1009)
	for _, d := range [][2]int{{1, 1}, {1, 2}, {2, 1}, {3, 5}, {5, 3}, {256, 1}, {1, 256}, {256, 256}, {255, 254}} {
		rows, cols := d[0], d[1]
		elems, stays := roomy(counting(rows*cols), 77)
		m, e := matrix.New(f, rows, cols, elems)
		if e != api.OK || m.Rows() != rows || m.Cols() != cols {
			t.Fatal(d, e, m.Rows(), m.Cols())
		}
		if !stays() {
			t.Error("an argument was changed", d)
		}
		spoil(elems)
		for i := range rows {
			for j := range cols {
				if x, e := m.At(i, j); x != uint32(i*cols+j)%1009 || e != api.OK {
					t.Fatal(d, i, j, x, e)
				}
			}
		}
	}
}

func TestP7_2Counts(t *testing.T) {
	m, e := matrix.New(mod(t, 7), 2, 2, []uint32{8, 7, math.MaxUint32, 6})
	check(t, "of 7", m, e, 2, 2, 1, 0, 3, 6)
	n, e := matrix.New(texts{t}, 1, 3, []string{"13", "#2", "-1"})
	check(t, "texts", n, e, 1, 3, "#3", "#2", "#4")
}

func TestP7_2Refused(t *testing.T) {
	f := mod(t, 7)
	for _, bad := range badDims() {
		for _, good := range []int{1, 2, 256} {
			for _, n := range []int{0, 1, 2, 256, 257, 512} {
				if m, e := matrix.New(f, bad, good, make([]uint32, n)); m != nil || e != api.ErrDims {
					t.Error(bad, good, n, e)
				}
				if m, e := matrix.New(f, good, bad, make([]uint32, n)); m != nil || e != api.ErrDims {
					t.Error(good, bad, n, e)
				}
			}
		}
		if m, e := matrix.New[uint32](f, bad, bad, nil); m != nil || e != api.ErrDims {
			t.Error(bad, e)
		}
	}
	for _, c := range [][3]int{{2, 2, 3}, {2, 2, 5}, {2, 2, 0}, {1, 1, 0}, {256, 256, 1<<16 - 1}, {256, 256, 1<<16 + 1}, {257, 1, 257}, {1, 257, 257}, {257, 257, 257 * 257}, {-2, -2, 4}} {
		if m, e := matrix.New(f, c[0], c[1], make([]uint32, c[2])); m != nil || e != api.ErrDims {
			t.Error(c, e)
		}
	}
	for _, dim := range append(badDims(), 1, 2, 256) {
		if m, e := matrix.New(nil, dim, 1, []uint32{1}); m != nil || e != api.ErrNil {
			t.Error("no field", dim, e)
		}
		if m, e := matrix.Identity[uint32](nil, dim); m != nil || e != api.ErrNil {
			t.Error("no field", dim, e)
		}
	}
	for _, dim := range badDims() {
		if m, e := matrix.Identity(f, dim); m != nil || e != api.ErrDims {
			t.Error(dim, e)
		}
	}
}

func TestP7_2Identity(t *testing.T) {
	for _, n := range []int{1, 2, 3, 100, 255, 256} {
		identity(t, mod(t, 2), n)
		identity(t, mod(t, 1<<31-1), n)
		identity(t, gf.Field{}, n)
		identity(t, texts{t}, n)
		identity(t, square{}, n)
	}
}

func identity[E comparable](t *testing.T, f matrix.Field[E], n int) {
	t.Helper()
	m, e := matrix.Identity(f, n)
	var want []E
	for i := range n * n {
		if i/n == i%n {
			want = append(want, f.One())
		} else {
			want = append(want, f.Zero())
		}
	}
	if e != api.OK || m.Rows() != n || m.Cols() != n || !slices.Equal(elements(m), want) {
		t.Error(n, e, m.Rows(), m.Cols())
	}
}

func TestP7_3At(t *testing.T) {
	m := made(t, mod(t, 7), 2, 2, 1, 2, 3, 4)
	if x, e := m.At(0, 2); x != 0 || e != api.ErrRow {
		t.Error(x, e)
	}
	for _, d := range [][2]int{{1, 1}, {2, 3}, {3, 2}, {256, 1}, {1, 256}} {
		m := made(t, mod(t, 1009), d[0], d[1], counting(d[0]*d[1])...)
		for _, i := range edges(d[0]) {
			for j := range d[1] {
				if x, e := m.At(i, j); x != 0 || e != api.ErrRow {
					t.Error(d, i, j, x, e)
				}
			}
		}
		for _, j := range edges(d[1]) {
			for i := range d[0] {
				if x, e := m.At(i, j); x != 0 || e != api.ErrRow {
					t.Error(d, i, j, x, e)
				}
			}
		}
	}
	// Beside an error the element is the zero value of its type, not the field's Zero.
	if x, e := made(t, texts{t}, 1, 1, "#3").At(1, 0); x != "" || e != api.ErrRow {
		t.Error(x, e)
	}
	for _, m := range notMade() {
		for _, i := range append(edges(1), 0) {
			if x, e := m.At(i, i); x != 0 || e != api.ErrNil {
				t.Error(i, x, e)
			}
		}
	}
}

func TestP7_3All(t *testing.T) {
	for _, d := range [][2]int{{1, 1}, {2, 3}, {3, 2}, {256, 1}, {1, 256}, {17, 19}} {
		rows, cols := d[0], d[1]
		m := made(t, mod(t, 1009), rows, cols, counting(rows*cols)...)
		all := m.All()
		for range 2 { // each row is spoilt, and may be nobody else's
			next := 0
			var seen [][]uint32
			for i, row := range all {
				if i != next || !slices.Equal(row, counting(rows * cols)[i*cols:(i+1)*cols]) {
					t.Fatal(d, i, next, row)
				}
				seen = append(seen, row)
				spoil(row)
				next++
			}
			if next != rows {
				t.Error(d, next)
			}
			for i, row := range seen {
				if row[0] != uint32(i*cols+3) {
					t.Error("a row was handed out twice", d, i)
				}
			}
		}
	}
}

func TestP7_3AllLeft(t *testing.T) {
	m := made(t, mod(t, 7), 3, 1, 1, 2, 3)
	all := m.All()
	for leave := range 4 {
		var seen []uint32
		for i, row := range all {
			if seen = append(seen, row...); i == leave {
				break
			}
		}
		if !slices.Equal(seen, []uint32{1, 2, 3}[:min(leave+1, 3)]) {
			t.Error(leave, seen)
		}
	}
	for i, row := range all { // two at one time
		for j, other := range all {
			if row[0] != uint32(i+1) || other[0] != uint32(j+1) {
				t.Error(i, j, row, other)
			}
		}
	}
}

func TestP7_4Examples(t *testing.T) {
	m := made(t, mod(t, 7), 2, 2, 1, 2, 3, 4)
	p, e := m.Mul(m)
	check(t, "Mul", p, e, 2, 2, 0, 3, 1, 1)
	if l, e := m.Times([]uint32{1, 1}); !slices.Equal(l, []uint32{3, 0}) || e != api.OK {
		t.Error(l, e)
	}
}

// products holds Mul and Times against sums of products at each place.
func (s suite[E]) products(t *testing.T) {
	for seed, d := range [][3]int{{1, 1, 1}, {1, 5, 1}, {5, 1, 5}, {2, 3, 4}, {4, 3, 2}, {6, 6, 6}, {3, 256, 2}, {256, 2, 3}, {2, 3, 256}} {
		a, b := s.matrix(t, d[0], d[1], seed), s.matrix(t, d[1], d[2], seed+100)
		was := elements(b)
		p, e := a.Mul(b)
		var want []E
		for i := range d[0] {
			for j := range d[2] {
				sum := s.f.Zero()
				for k := range d[1] {
					sum = s.f.Add(sum, s.f.Mul(must[E](t)(a.At(i, k)), must[E](t)(b.At(k, j))))
				}
				want = append(want, sum)
			}
		}
		if e != api.OK || p.Rows() != d[0] || p.Cols() != d[2] || !slices.Equal(elements(p), want) {
			t.Error("Mul", d, e)
		}
		column := must[*matrix.Matrix[E]](t)(matrix.New(s.f, d[1], 1, s.list(d[1], seed)))
		v, stays := roomy(elements(column), s.f.One())
		if got, e := a.Times(v); e != api.OK || !slices.Equal(got, elements(must[*matrix.Matrix[E]](t)(a.Mul(column)))) || !stays() {
			t.Error("Times", d, e)
		}
		if !slices.Equal(elements(b), was) {
			t.Error("changed", d)
		}
	}
}

func TestP7_4(t *testing.T) { overFields(t, tries.products) }

func TestP7_4Counts(t *testing.T) {
	m := made(t, mod(t, 7), 1, 2, 1, 2)
	if got, e := m.Times([]uint32{14, math.MaxUint32}); !slices.Equal(got, []uint32{6}) || e != api.OK {
		t.Error(got, e)
	}
	if got, e := made(t, texts{t}, 1, 2, "#1", "#2").Times([]string{"4", "13"}); !slices.Equal(got, []string{"#0"}) || e != api.OK {
		t.Error(got, e)
	}
	// The elements of the other one are of the field of 11, but are reckoned with by that of 7.
	p, e := m.Mul(made(t, mod(t, 11), 2, 1, 10, 9))
	check(t, "of 7 and of 11", p, e, 1, 1, 0)
	p, e = made(t, mod(t, 7), 1, 1, 1).Mul(made(t, mod(t, 11), 1, 1, 10))
	check(t, "one of 7", p, e, 1, 1, 3)
	p, e = p.Mul(made(t, mod(t, 11), 1, 1, 5))
	check(t, "what came out is of 7", p, e, 1, 1, 1)
	q, e := made(t, texts{t}, 1, 1, "#2").Mul(made(t, joined{}, 1, 1, "13"))
	check(t, "texts", q, e, 1, 1, "#1")
}

// joined is no field: it leaves all texts as they are when nothing is added.
type joined struct{}

func (joined) Zero() string                    { return "" }
func (joined) One() string                     { return "1" }
func (joined) Add(a, b string) string          { return a + b }
func (joined) Sub(a, b string) string          { return a }
func (joined) Mul(a, b string) string          { return b }
func (joined) Inverse(a string) (string, bool) { return a, true }

func TestP7_4Refused(t *testing.T) {
	f := mod(t, 7)
	for _, d := range [][4]int{{1, 1, 2, 1}, {2, 1, 2, 1}, {2, 3, 2, 3}, {3, 2, 3, 2}, {1, 256, 255, 1}, {1, 2, 1, 2}} {
		a, b := made(t, f, d[0], d[1], counting(d[0]*d[1])...), made(t, f, d[2], d[3], counting(d[2]*d[3])...)
		if p, e := a.Mul(b); p != nil || e != api.ErrDims {
			t.Error(d, e)
		}
		for _, n := range []int{0, d[1] - 1, d[1] + 1, 1000} {
			if l, e := a.Times(make([]uint32, n)); l != nil || e != api.ErrDims {
				t.Error(d, n, e)
			}
		}
	}
	m := made(t, f, 1, 1, 1)
	for _, none := range notMade() {
		p, e := m.Mul(none)
		q, g := none.Mul(m)
		r, h := none.Mul(none)
		if p != nil || q != nil || r != nil || e != api.ErrNil || g != api.ErrNil || h != api.ErrNil {
			t.Error("Mul", e, g, h)
		}
		for n := range 3 {
			if l, e := none.Times(make([]uint32, n)); l != nil || e != api.ErrNil {
				t.Error("Times", n, e)
			}
		}
	}
}

func TestP7_5(t *testing.T) {
	m := made(t, mod(t, 7), 2, 2, 1, 2, 3, 4)
	p, e := m.Pick(1, 1)
	check(t, "1 1", p, e, 2, 2, 3, 4, 3, 4)
	wide := made(t, mod(t, 1009), 4, 3, counting(12)...)
	p, e = wide.Pick(3, 0, 2, 0, 3)
	check(t, "with others between", p, e, 5, 3, 9, 10, 11, 0, 1, 2, 6, 7, 8, 0, 1, 2, 9, 10, 11)
	p, e = wide.Pick(2)
	check(t, "one", p, e, 1, 3, 6, 7, 8)
	rows, stays := roomy([]int{1, 0}, 1)
	p, e = m.Pick(rows...)
	rows[0] = 0
	check(t, "list", p, e, 2, 2, 3, 4, 1, 2)
	if rows[0] = 1; !stays() {
		t.Error("an argument was changed")
	}
	most := make([]int, 256)
	for i := range most {
		most[i] = i % 4
	}
	if p, e := wide.Pick(most...); e != api.OK || p.Rows() != 256 || !slices.Equal(elements(p)[253*3:], []uint32{3, 4, 5, 6, 7, 8, 9, 10, 11}) {
		t.Error(e, p.Rows())
	}
}

func TestP7_5Refused(t *testing.T) {
	m := made(t, mod(t, 7), 2, 3, counting(6)...)
	if p, e := m.Pick(); p != nil || e != api.ErrDims {
		t.Error(e)
	}
	for _, bad := range edges(2) {
		for _, rows := range [][]int{{bad}, {0, bad}, {bad, 1}, {0, bad, 1}} {
			if p, e := m.Pick(rows...); p != nil || e != api.ErrRow {
				t.Error(rows, e)
			}
		}
	}
	for _, n := range []int{257, 1000} {
		for _, row := range []int{0, 2, -1} { // of two errors the first
			if p, e := m.Pick(slices.Repeat([]int{row}, n)...); p != nil || e != api.ErrDims {
				t.Error(n, row, e)
			}
		}
	}
	for _, none := range notMade() {
		for _, rows := range [][]int{nil, {0}, {-1}, make([]int, 257)} {
			if p, e := none.Pick(rows...); p != nil || e != api.ErrNil {
				t.Error(len(rows), e)
			}
		}
	}
}

func TestP7_9(t *testing.T) {
	f := mod(t, 1009)
	m := made(t, f, 2, 3, counting(6)...)
	if !m.Same(m) || !m.Same(made(t, f, 2, 3, counting(6)...)) {
		t.Error("the same")
	}
	for _, d := range [][2]int{{3, 2}, {1, 6}, {6, 1}, {1, 3}, {2, 1}, {4, 3}, {2, 2}} {
		if o := made(t, f, d[0], d[1], counting(d[0]*d[1])...); m.Same(o) || o.Same(m) {
			t.Error("of other dimensions", d)
		}
	}
	for i := range 6 {
		elems := counting(6)
		elems[i] = 9
		if o := made(t, f, 2, 3, elems...); m.Same(o) || o.Same(m) {
			t.Error("of another element", i)
		}
	}
	if !m.Same(made(t, mod(t, 7), 2, 3, counting(6)...)) || !made(t, mod(t, 7), 2, 3, counting(6)...).Same(m) {
		t.Error("the same elements, of two fields")
	}
	for _, none := range notMade() {
		if none.Same(none) || none.Same(m) || m.Same(none) || none.Same(nil) || none.Same(new(numbersMatrix)) {
			t.Error("not made")
		}
		if none.Rows() != 0 || none.Cols() != 0 || none.Rank() != 0 {
			t.Error(none.Rows(), none.Cols(), none.Rank())
		}
		all := none.All()
		if all == nil {
			t.Fatal("no iterator")
		}
		for i, row := range all {
			t.Error(i, row)
		}
	}
}

func TestP7_10(t *testing.T) {
	f := mod(t, 7)
	m := made(t, f, 2, 2, 1, 2, 3, 4)
	was := elements(m)
	all := m.All()
	product := must[*numbersMatrix](t)(m.Mul(m))
	picked := must[*numbersMatrix](t)(m.Pick(0, 1))
	turned := must[*numbersMatrix](t)(m.Inverse())
	times := must[[]uint32](t)(m.Times([]uint32{1, 1}))
	solved := must[[]uint32](t)(m.Solve([]uint32{3, 0}))
	spoil(times)
	spoil(solved)
	m.Rank()
	for _, row := range m.All() {
		spoil(row)
	}
	if !slices.Equal(elements(m), was) {
		t.Error("a matrix was changed", elements(m))
	}
	*m = *made(t, f, 1, 1, 5)
	check(t, "product", product, api.OK, 2, 2, 0, 3, 1, 1)
	check(t, "picked", picked, api.OK, 2, 2, 1, 2, 3, 4)
	check(t, "turned", turned, api.OK, 2, 2, 5, 1, 5, 3)
	var seen []uint32
	for _, row := range all {
		seen = append(seen, row...)
	}
	if !slices.Equal(seen, was) {
		t.Error("All goes through what was there when it was called", seen)
	}
}

// lost is no field at all: its elements are lists, which cannot be held against each other, and all that it tells is another one.
type lost struct{ is bool }

func (lost) Zero() any                   { return []int{0} }
func (lost) One() any                    { return []int{1} }
func (lost) Add(a, b any) any            { return []int{2} }
func (lost) Sub(a, b any) any            { return []int{3} }
func (lost) Mul(a, b any) any            { return []int{4} }
func (f lost) Inverse(a any) (any, bool) { return []int{5}, f.is }

// fickle is no field either: what it tells changes from call to call.
type fickle struct{ calls *int }

func (f fickle) next() int                 { *f.calls++; return *f.calls % 3 }
func (f fickle) Zero() int                 { return f.next() }
func (f fickle) One() int                  { return f.next() }
func (f fickle) Add(a, b int) int          { return f.next() }
func (f fickle) Sub(a, b int) int          { return f.next() }
func (f fickle) Mul(a, b int) int          { return f.next() }
func (f fickle) Inverse(a int) (int, bool) { return f.next(), f.next() > 0 }

// allCalls makes every call over what is none of a field: it ends and does not panic.
func allCalls[E comparable](t *testing.T, f matrix.Field[E]) {
	t.Helper()
	for n := 1; n < 8; n++ {
		m, e := matrix.New(f, n, n, make([]E, n*n))
		o, g := matrix.Identity(f, n)
		if e != api.OK || g != api.OK {
			t.Fatal(e, g)
		}
		for _, pair := range [][2]*matrix.Matrix[E]{{m, m}, {m, o}, {o, m}, {o, o}} {
			a, b := pair[0], pair[1]
			if p, e := a.Mul(b); e != api.OK || p.Rows() != n {
				t.Error(e)
			}
			a.Same(b)
			a.Rank()
			a.Inverse()
			a.Solve(make([]E, n))
			if l, e := a.Times(make([]E, n)); e != api.OK || len(l) != n {
				t.Error(e)
			}
			if p, e := a.Pick(0, n-1, 0); e != api.OK || p.Rows() != 3 {
				t.Error(e)
			}
		}
	}
}

func TestNoField(t *testing.T) {
	allCalls(t, lost{true})
	allCalls(t, lost{false})
	allCalls(t, fickle{new(int)})
	allCalls(t, matrix.Field[string](joined{}))
	allCalls(t, matrix.Field[uint32]((*matrix.Mod)(nil)))
	allCalls(t, matrix.Field[uint32](new(matrix.Mod)))
}

// whole numbers of 3, kept in an interface type, are a field all the same.
type boxed struct{}

func (boxed) Zero() any        { return 0 }
func (boxed) One() any         { return 1 }
func (boxed) Add(a, b any) any { return (a.(int) + b.(int)) % 3 }
func (boxed) Sub(a, b any) any { return (a.(int) - b.(int) + 3) % 3 }
func (boxed) Mul(a, b any) any { return a.(int) * b.(int) % 3 }
func (boxed) Inverse(a any) (any, bool) {
	if a == 0 {
		return nil, false
	}
	return a, true
}

func TestBoxed(t *testing.T) {
	m := made(t, boxed{}, 2, 2, any(1), any(2), any(1), any(4))
	x, e := m.Inverse()
	check(t, "Inverse", x, e, 2, 2, any(2), any(2), any(1), any(2))
	if m.Rank() != 2 || !m.Same(m) || m.Same(x) {
		t.Error(m.Rank())
	}
}
