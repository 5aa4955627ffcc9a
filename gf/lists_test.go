package gf_test

import (
	"bytes"
	"slices"
	"testing"

	"strongroom/api"
	"strongroom/gf"
)

// counted gives n elements that hang on the seed, of which some are nought, but the last one is not.
func counted(n, seed int) []byte {
	b := make([]byte, n)
	x := uint32(seed)*2654435761 + 12345
	for i := range b {
		x = x*1664525 + 1013904223
		b[i] = byte(x>>24) & byte(x>>16|0xf0)
	}
	if n > 0 {
		b[n-1] |= 1
	}
	return b
}

// roomy gives the list with spare room behind it, and a function that tells whether both are as they were.
func roomy[E comparable](list []E, fill E) ([]E, func() bool) {
	all := append(slices.Clone(list), fill, fill, fill)
	was := slices.Clone(all)
	return all[:len(list)], func() bool { return slices.Equal(all, was) }
}

// spoil overwrites a list and its spare room.
func spoil(b []byte) {
	b = b[:cap(b)]
	for i := range b {
		b[i] ^= 0x5a
	}
}

// noughts puts n noughts behind a list.
func noughts(p []byte, n int) []byte { return append(slices.Clone(p), make([]byte, n)...) }

// lean tells whether no nought stands behind the last other coefficient.
func lean(p []byte) bool { return len(p) == 0 || p[len(p)-1] != 0 }

// value works a polynomial's value out, power by power.
func value(p []byte, x byte) byte {
	var sum byte
	power := byte(1)
	for _, c := range p {
		sum ^= theirs(c, power)
		power = theirs(power, x)
	}
	return sum
}

// product multiplies two polynomials whose last coefficients are not nought.
func product(a, b []byte) []byte {
	if len(a) == 0 || len(b) == 0 {
		return nil
	}
	out := make([]byte, len(a)+len(b)-1)
	for i, c := range a {
		for j, d := range b {
			out[i+j] ^= theirs(c, d)
		}
	}
	return out
}

func TestP6_3Dot(t *testing.T) {
	if x, e := gf.Dot([]byte{1, 2}, []byte{3, 4}); x != 11 || e != api.OK {
		t.Error(x, e)
	}
	for _, n := range []int{0, 1, 2, 3, 100, 255, 256} {
		a, b := counted(n, 1), counted(n, 2)
		var want byte
		for i := range a {
			want ^= theirs(a[i], b[i])
		}
		a, aStays := roomy(a, 77)
		b, bStays := roomy(b, 77)
		if x, e := gf.Dot(a, b); x != want || e != api.OK {
			t.Error(n, x, e)
		}
		if !aStays() || !bStays() {
			t.Error(n, "an argument was changed")
		}
	}
	if x, e := gf.Dot(nil, []byte{}); x != 0 || e != api.OK {
		t.Error(x, e)
	}
}

func TestP6_3DotRefused(t *testing.T) {
	for _, c := range [][2]int{{0, 1}, {1, 0}, {2, 3}, {255, 256}, {256, 257}, {257, 256}, {257, 257}, {1000, 1000}} {
		if x, e := gf.Dot(bytes.Repeat([]byte{1}, c[0]), bytes.Repeat([]byte{1}, c[1])); x != 0 || e != api.ErrPoints {
			t.Error(c, x, e)
		}
	}
}

func TestP6_3Scale(t *testing.T) {
	if got := gf.Scale([]byte{1, 2}, 2); !bytes.Equal(got, []byte{2, 4}) {
		t.Error(got)
	}
	for _, n := range []int{0, 1, 2, 255, 256, 257, 70000} {
		for _, by := range []byte{0, 1, 2, 3, 128, 142, 255} {
			want := counted(n, n)
			l, stays := roomy(want, 99)
			for i, a := range want {
				want[i] = theirs(a, by)
			}
			got := gf.Scale(l, by)
			if !bytes.Equal(got, want) {
				t.Error("Scale", n, by)
			}
			spoil(got)
			if !stays() {
				t.Error("an argument was changed, or handed out", n, by)
			}
		}
	}
}

func TestP6_3ScaleAllPairs(t *testing.T) {
	all := make([]byte, 256)
	for i := range all {
		all[i] = byte(i)
	}
	for by := range 256 {
		for a, got := range gf.Scale(all, byte(by)) {
			if got != theirs(byte(a), byte(by)) {
				t.Fatal(a, by, got)
			}
		}
	}
}

func TestP6_4(t *testing.T) {
	if x := gf.Eval([]byte{1, 2, 3}, 2); x != 9 {
		t.Error(x)
	}
	for _, n := range []int{0, 1, 2, 3, 10, 255, 256, 257, 5000} {
		p, stays := roomy(counted(n, n), 99)
		for x := range 256 {
			if got := gf.Eval(p, byte(x)); got != value(p, byte(x)) {
				t.Fatal(n, x, got, value(p, byte(x)))
			}
			if gf.Eval(noughts(p, 300), byte(x)) != value(p, byte(x)) {
				t.Fatal("noughts behind", n, x)
			}
		}
		if !stays() {
			t.Error("an argument was changed", n)
		}
		if n > 0 && gf.Eval(p, 0) != p[0] {
			t.Error("at nought", n)
		}
	}
}

// pairs gives how many coefficients two polynomials have.
func pairs() [][2]int {
	return [][2]int{{0, 0}, {0, 1}, {1, 0}, {1, 1}, {2, 1}, {1, 2}, {2, 2}, {5, 3}, {3, 5}, {0, 256}, {256, 0}, {256, 1}, {1, 256}, {255, 255}, {256, 255}, {255, 256}, {256, 256}, {200, 30}}
}

func TestP6_5Times(t *testing.T) {
	if p, e := gf.Times([]byte{1, 1}, []byte{1, 1}); !bytes.Equal(p, []byte{1, 0, 1}) || e != api.OK {
		t.Error(p, e)
	}
	for _, c := range pairs() {
		for _, behind := range []int{0, 1, 300} {
			a, b := counted(c[0], 1), counted(c[1], 2)
			want := product(a, b)
			a, aStays := roomy(noughts(a, behind), 99)
			b, bStays := roomy(noughts(b, behind), 99)
			got, e := gf.Times(a, b)
			if !bytes.Equal(got, want) || e != api.OK {
				t.Error(c, behind, e)
			}
			spoil(got)
			if !aStays() || !bStays() {
				t.Error("an argument was changed, or handed out", c, behind)
			}
		}
	}
}

func TestP6_5TimesRefused(t *testing.T) {
	for _, c := range [][2]int{{257, 1}, {1, 257}, {257, 0}, {0, 257}, {257, 257}, {1000, 256}} {
		for _, behind := range []int{0, 5} {
			if p, e := gf.Times(noughts(counted(c[0], 1), behind), noughts(counted(c[1], 2), behind)); len(p) != 0 || e != api.ErrPoints {
				t.Error(c, len(p), e)
			}
		}
	}
}

func TestP6_5OverExamples(t *testing.T) {
	for _, c := range []struct{ a, b, q, r []byte }{
		{[]byte{1, 0, 1}, []byte{1, 1}, []byte{1, 1}, nil},
		{[]byte{7, 1}, []byte{1, 0, 2}, nil, []byte{7, 1}},
		{[]byte{1, 2, 0}, []byte{1, 2, 0, 0}, []byte{1}, nil},
		{nil, []byte{5}, nil, nil},
		{[]byte{0, 0, 0}, []byte{0, 5}, nil, nil},
		{[]byte{1, 2, 3}, []byte{1}, []byte{1, 2, 3}, nil},
		{[]byte{4, 6}, []byte{2}, []byte{2, 3}, nil},
	} {
		q, r, e := gf.Over(c.a, c.b)
		if !bytes.Equal(q, c.q) || !bytes.Equal(r, c.r) || e != api.OK {
			t.Error(c, q, r, e)
		}
	}
}

func TestP6_5Over(t *testing.T) {
	for _, c := range pairs() {
		if c[1] == 0 {
			continue
		}
		for _, behind := range []int{0, 1, 300} {
			leanA, leanB := counted(c[0], 3), counted(c[1], 4)
			a, aStays := roomy(noughts(leanA, behind), 99)
			b, bStays := roomy(noughts(leanB, behind), 99)
			q, r, e := gf.Over(a, b)
			if e != api.OK || len(r) >= c[1] || !lean(q) || !lean(r) {
				t.Error(c, behind, e, len(q), len(r))
			}
			back := noughts(product(q, leanB), max(len(leanA), len(r)))
			for i, x := range r {
				back[i] ^= x
			}
			if !bytes.Equal(back[:len(leanA)], leanA) || slices.Max(noughts(back[len(leanA):], 1)) != 0 {
				t.Error("q b + r is not a", c, behind)
			}
			kept := slices.Clone(r)
			spoil(q)
			if !bytes.Equal(r, kept) {
				t.Error("both answers share memory", c, behind)
			}
			spoil(r)
			if !aStays() || !bStays() {
				t.Error("an argument was changed, or handed out", c, behind)
			}
		}
	}
}

func TestP6_5OverBack(t *testing.T) {
	for n := 1; n <= 120; n++ {
		b, q, r := counted(n, n), counted(130-n, 7), counted(n-1, 9)
		a := product(q, b)
		for i, x := range r {
			a[i] ^= x
		}
		gotQ, gotR, e := gf.Over(a, b)
		if !bytes.Equal(gotQ, q) || !bytes.Equal(gotR, r) || e != api.OK {
			t.Error(n, e)
		}
	}
}

func TestP6_5OverRefused(t *testing.T) {
	for _, c := range []struct {
		a, b []byte
		want api.Errno
	}{
		{nil, nil, api.ErrNought},
		{[]byte{1}, nil, api.ErrNought},
		{[]byte{1}, []byte{0}, api.ErrNought},
		{counted(256, 1), make([]byte, 300), api.ErrNought},
		{counted(257, 1), nil, api.ErrPoints},
		{counted(257, 1), make([]byte, 300), api.ErrPoints},
		{counted(257, 1), []byte{1}, api.ErrPoints},
		{[]byte{1}, counted(257, 1), api.ErrPoints},
		{nil, counted(257, 1), api.ErrPoints},
	} {
		if q, r, e := gf.Over(c.a, c.b); len(q) != 0 || len(r) != 0 || e != c.want {
			t.Error(len(c.a), len(c.b), q, r, e)
		}
	}
}

// pointsOf gives n points of a polynomial, at places that do not rise.
func pointsOf(p []byte, n int) []api.Point {
	var points []api.Point
	for i := range n {
		x := byte(77*i + 5)
		points = append(points, api.Point{X: x, Y: value(p, x)})
	}
	return points
}

func TestP6_6Examples(t *testing.T) {
	for _, c := range []struct {
		points []api.Point
		want   []byte
	}{
		{nil, nil},
		{[]api.Point{}, nil},
		{[]api.Point{{X: 0, Y: 5}, {X: 1, Y: 7}}, []byte{5, 2}},
		{[]api.Point{{X: 9, Y: 0}}, nil},
		{[]api.Point{{X: 9, Y: 4}}, []byte{4}},
		{[]api.Point{{X: 9, Y: 4}, {X: 0, Y: 4}, {X: 255, Y: 4}}, []byte{4}},
		{[]api.Point{{X: 1, Y: 0}, {X: 2, Y: 0}}, nil},
	} {
		if got, e := gf.Through(c.points); !bytes.Equal(got, c.want) || e != api.OK {
			t.Error(c.points, got, e)
		}
	}
}

func TestP6_6Values(t *testing.T) {
	for _, n := range []int{1, 2, 3, 17, 100, 255, 256} {
		var points []api.Point
		for i, y := range counted(n, n) {
			points = append(points, api.Point{X: byte(i*77 + n), Y: y})
		}
		points, stays := roomy(points, api.Point{X: 1, Y: 2})
		got, e := gf.Through(points)
		if e != api.OK || len(got) > n || !lean(got) {
			t.Error(n, e, len(got))
		}
		for _, p := range points {
			if value(got, p.X) != p.Y {
				t.Error(n, p)
			}
		}
		if !stays() {
			t.Error("an argument was changed", n)
		}
	}
}

func TestP6_6Refused(t *testing.T) {
	twice := pointsOf(nil, 256)
	twice[255].X = twice[0].X
	for _, c := range []struct {
		points []api.Point
		want   api.Errno
	}{
		{[]api.Point{{X: 3, Y: 1}, {X: 3, Y: 1}}, api.ErrTwice},
		{[]api.Point{{X: 3, Y: 1}, {X: 3, Y: 2}}, api.ErrTwice},
		{[]api.Point{{X: 0, Y: 0}, {X: 0, Y: 0}}, api.ErrTwice},
		{[]api.Point{{X: 3, Y: 1}, {X: 4, Y: 1}, {X: 5, Y: 7}, {X: 3, Y: 1}}, api.ErrTwice},
		{twice, api.ErrTwice},
		{make([]api.Point, 256), api.ErrTwice},
		{make([]api.Point, 257), api.ErrPoints},
		{pointsOf(nil, 257), api.ErrPoints},
	} {
		if p, e := gf.Through(c.points); len(p) != 0 || e != c.want {
			t.Error(len(c.points), p, e)
		}
	}
}

func TestP6_10Evals(t *testing.T) {
	for _, c := range pairs() {
		a, b := counted(c[0], 5), counted(c[1], 6)
		times, e := gf.Times(a, b)
		if e != api.OK {
			t.Error(c, e)
		}
		q, r, e := gf.Over(a, b)
		if (e == api.OK) != (c[1] > 0) {
			t.Error(c, e)
		}
		for n := range 256 {
			x := byte(n)
			if gf.Eval(times, x) != gf.Mul(gf.Eval(a, x), gf.Eval(b, x)) {
				t.Fatal("Times", c, x)
			}
			if e == api.OK && gf.Eval(a, x) != gf.Add(gf.Mul(gf.Eval(q, x), gf.Eval(b, x)), gf.Eval(r, x)) {
				t.Fatal("Over", c, x)
			}
		}
	}
}

// zeros counts the places at which a polynomial is nought.
func zeros(p []byte) int {
	n := 0
	for x := range 256 {
		if gf.Eval(p, byte(x)) == 0 {
			n++
		}
	}
	return n
}

func TestP6_10Zeros(t *testing.T) {
	for n := 1; n <= 256; n++ {
		if p := counted(n, n); zeros(p) > n-1 {
			t.Error(n, zeros(p))
		}
	}
	p := []byte{1}
	for x := range 255 {
		p, _ = gf.Times(p, []byte{byte(x), 1})
		if zeros(p) != x+1 {
			t.Error("product of", x+1, "has", zeros(p))
		}
	}
}

func TestP6_10Through(t *testing.T) {
	for _, n := range []int{0, 1, 2, 3, 5, 60, 255, 256} {
		p := counted(n, n+1)
		for _, places := range []int{n, n + 1, n + 20, 256} {
			if places > 256 {
				continue
			}
			if got, e := gf.Through(pointsOf(p, places)); !bytes.Equal(got, p) || e != api.OK {
				t.Error(n, places, e)
			}
		}
	}
}
