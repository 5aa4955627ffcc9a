package cut_test

import (
	"bytes"
	"math"
	"testing"

	"strongroom/api"
	"strongroom/cut"
)

// shapeOf reckons a shape by counting, as the recipe says it: held against the program's.
func shapeOf(k, n, asked, size int) api.Shape {
	s := api.Shape{K: k, N: n, Size: size}
	for s.Seg < asked {
		s.Seg += k
		s.Block++
	}
	left := size
	for s.Segs = 1; left > s.Seg; s.Segs++ {
		left -= s.Seg
	}
	s.Tail = left
	for s.LastBlock*k < s.Tail {
		s.LastBlock++
	}
	return s
}

// counts gives K and N at both ends and between.
func counts() [][2]int {
	return [][2]int{{1, 1}, {1, 2}, {2, 2}, {3, 5}, {3, 10}, {4, 4}, {7, 9}, {16, 31}, {32, 33}, {33, 33}, {100, 200}, {128, 255}, {1, 255}, {254, 254}, {254, 255}, {255, 255}}
}

// askedSegs gives sizes of a segment that may be asked for.
func askedSegs() []int {
	return []int{1, 2, 3, 10, 12, 33, 254, 255, 256, 1000, 4096, 32767, 32768, 32769, 65280, 65281, 65534, 65535, 65536}
}

// sizes gives those around the ends, and around whole numbers of segments of seg bytes.
func sizes(seg int) []int {
	out := []int{math.MinInt, -1, 0, 1, 31, 32, 33, 34, 100, 65536, 1<<24 - 1, 1 << 24, 1<<24 + 1, 1 << 32, 1<<32 + 100, math.MaxInt}
	for _, segs := range []int{1, 2, 3, 255, 511, 512, 513} {
		out = append(out, segs*seg-1, segs*seg, segs*seg+1)
	}
	return out
}

// beyond gives numbers that are outside of all bounds, and such as a narrower number would take for one within.
func beyond() []int {
	return []int{math.MinInt, -1 << 32, 1<<32 + 3, -1, 1 << 40, math.MaxInt - 1, math.MaxInt}
}

func inBounds(size int) bool { return size >= 33 && size <= 1<<24 }

func TestP9_1Check(t *testing.T) {
	may := func(p api.Params) {
		if e := cut.Check(p); e != api.OK {
			t.Errorf("%+v: %d", p, e)
		}
	}
	mayNot := func(p api.Params) {
		if e := cut.Check(p); e != api.ErrParams {
			t.Errorf("%+v: %d", p, e)
		}
	}
	for k := -2; k <= 258; k++ {
		for n := -2; n <= 258; n++ {
			p := api.Params{K: k, N: n, Seg: 10}
			if k >= 1 && k <= n && n <= 255 {
				may(p)
			} else {
				mayNot(p)
			}
		}
	}
	for _, seg := range askedSegs() {
		may(api.Params{K: 3, N: 5, Seg: seg})
		may(api.Params{K: 255, N: 255, Seg: seg})
	}
	for _, seg := range append(beyond(), 0, 65537, 65538, 65790) {
		mayNot(api.Params{K: 3, N: 5, Seg: seg})
		mayNot(api.Params{K: 255, N: 255, Seg: seg})
	}
	for _, x := range beyond() {
		mayNot(api.Params{K: x, N: x, Seg: 10})
		mayNot(api.Params{K: x, N: 5, Seg: 10})
		mayNot(api.Params{K: 3, N: x, Seg: 10})
	}
}

func TestP9_1CheckOfSecretAndHappy(t *testing.T) {
	for _, size := range []int{0, 1, 63, 64, 65, 66, 320} {
		want := api.OK
		if size > 64 {
			want = api.ErrParams
		}
		secret := make([]byte, size, size+100)
		if e := cut.Check(api.Params{K: 1, N: 1, Seg: 1, Secret: secret}); e != want {
			t.Errorf("a secret of %d bytes: %d", size, e)
		}
	}
	for _, happy := range append(beyond(), 0, 1, 5, 6, 256) {
		if e := cut.Check(api.Params{K: 3, N: 5, Seg: 10, Happy: happy}); e != api.OK {
			t.Errorf("Happy %d: %d", happy, e)
		}
	}
}

func TestP9_1Literal(t *testing.T) {
	for size := range 33 {
		if !cut.Literal(size) {
			t.Error(size)
		}
	}
	for _, size := range append(beyond(), -2, 33, 34, 64, 1<<24) {
		if cut.Literal(size) {
			t.Error(size)
		}
	}
}

// wantShape is what P9.2 says of parameters that may be.
func wantShape(k, n, asked, size int) (api.Shape, api.Errno) {
	if !inBounds(size) {
		return api.Shape{}, api.ErrSize
	}
	s := shapeOf(k, n, asked, size)
	if s.Segs > 512 {
		return api.Shape{}, api.ErrParams
	}
	return s, api.OK
}

func TestP9_2Shape(t *testing.T) {
	for _, c := range counts() {
		for _, asked := range askedSegs() {
			p := api.Params{K: c[0], N: c[1], Seg: asked, Happy: -7, Secret: []byte{1}}
			for _, size := range sizes(shapeOf(c[0], c[1], asked, 33).Seg) {
				want, e := wantShape(c[0], c[1], asked, size)
				if got, f := cut.Shape(p, size); got != want || f != e {
					t.Fatalf("%+v, %d: %+v, %d; want %+v, %d", p, size, got, f, want, e)
				}
			}
		}
	}
}

func TestP9_2AllSmallSizes(t *testing.T) {
	for k := 1; k <= 12; k++ {
		for asked := 1; asked <= 30; asked++ {
			for size := 33; size <= 200; size++ {
				got, e := cut.Shape(api.Params{K: k, N: 12, Seg: asked}, size)
				if want := shapeOf(k, 12, asked, size); got != want || e != api.OK {
					t.Fatalf("%d, %d, %d: %+v, %d; want %+v", k, asked, size, got, e, want)
				}
			}
		}
	}
}

func TestP9_2FirstError(t *testing.T) {
	wrong := []api.Params{{}, {K: 0, N: 5, Seg: 10}, {K: 6, N: 5, Seg: 10}, {K: 3, N: 256, Seg: 10}, {K: 3, N: 5}, {K: 3, N: 5, Seg: 65537}, {K: 3, N: 5, Seg: 10, Secret: make([]byte, 65)}}
	for _, p := range wrong {
		for _, size := range []int{math.MinInt, -1, 32, 100, 1<<24 + 1, math.MaxInt} {
			if s, e := cut.Shape(p, size); s != (api.Shape{}) || e != api.ErrParams {
				t.Errorf("%+v, %d: %+v, %d", p, size, s, e)
			}
		}
	}
	// Too small a segment for such a size, and no size of a file at all: the size is told.
	if s, e := cut.Shape(api.Params{K: 1, N: 1, Seg: 1}, 1<<24+1); s != (api.Shape{}) || e != api.ErrSize {
		t.Error(s, e)
	}
}

func TestP9_3AgainOfAllSegs(t *testing.T) {
	for _, c := range counts() {
		k, n := c[0], c[1]
		fitting := map[int]api.Shape{}
		for asked := 1; asked <= 65536; asked++ {
			// 65536 bytes are in too many segments, where few bytes are asked for.
			if s, e := cut.Shape(api.Params{K: k, N: n, Seg: asked}, 65536); e == api.OK {
				fitting[s.Seg] = s
			}
		}
		for seg := -300; seg <= 66200; seg++ {
			want, ok := fitting[seg]
			got, e := cut.Again(k, n, seg, 65536)
			if ok && (got != want || e != api.OK) || !ok && (got != (api.Shape{}) || e != api.ErrShape) {
				t.Fatalf("%d, %d, %d: %+v, %d", k, n, seg, got, e)
			}
		}
	}
}

func TestP9_3AgainRefused(t *testing.T) {
	refused := func(k, n, seg, size int) {
		if s, e := cut.Again(k, n, seg, size); s != (api.Shape{}) || e != api.ErrShape {
			t.Errorf("Again(%d, %d, %d, %d): %+v, %d", k, n, seg, size, s, e)
		}
	}
	for _, x := range beyond() {
		refused(x, 5, 12, 100)
		refused(3, x, 12, 100)
		refused(x, x, 12, 100)
		refused(3, 5, x, 100)
		refused(3, 5, 12, x)
		refused(x, x, x, x)
	}
	refused(0, 0, 0, 0)
	for _, c := range [][2]int{{0, 5}, {6, 5}, {4, 3}, {3, 256}, {256, 256}, {-3, 5}, {1, 0}} {
		refused(c[0], c[1], 12, 100)
	}
	for _, seg := range []int{0, -3, -12, 1, 2, 4, 13, 65536, 65537, 65539, 65541, 65538 + 65538} {
		refused(3, 5, seg, 100)
	}
	for _, size := range []int{-100, 0, 1, 32, 6145, 1<<24 + 1} {
		refused(3, 5, 12, size)
	}
	refused(1, 1, 65536, 1<<24+1)
	refused(1, 1, 65537, 100)
	refused(255, 255, 65536, 100)
}

// fields gives the places of a shape's eight numbers.
func fields(s *api.Shape) []*int {
	return []*int{&s.K, &s.N, &s.Seg, &s.Size, &s.Segs, &s.Tail, &s.Block, &s.LastBlock}
}

func TestP9_3Fits(t *testing.T) {
	if cut.Fits(api.Shape{}) {
		t.Error("no shape at all")
	}
	shapes := []api.Shape{shapeOf(3, 5, 10, 100), shapeOf(3, 5, 10, 36), shapeOf(1, 1, 1, 33), shapeOf(255, 255, 65536, 1<<24), shapeOf(1, 255, 32768, 1<<24), shapeOf(7, 9, 65536, 33), shapeOf(4, 8, 8, 64)}
	for _, s := range shapes {
		if !cut.Fits(s) {
			t.Errorf("%+v", s)
		}
		for i := range 8 {
			for _, by := range []int{-1000, -12, -7, -1, 1, 7, 12, 1000, 1 << 32, math.MaxInt, math.MinInt} {
				other := s
				*fields(&other)[i] += by
				if want := fitsByCount(other); cut.Fits(other) != want {
					t.Errorf("%+v: %v", other, !want)
				}
			}
		}
	}
}

// fitsByCount tells whether a shape is that of its four numbers, as the chapter's words say it.
func fitsByCount(s api.Shape) bool {
	if s.K < 1 || s.K > s.N || s.N > 255 || !inBounds(s.Size) || s.Seg < 1 || s.Seg > 66000 || s.Seg%s.K != 0 {
		return false
	}
	// The greatest one that is asked for.
	if s.Seg > shapeOf(s.K, s.N, 65536, 33).Seg {
		return false
	}
	return s.Segs <= 512 && s == shapeOf(s.K, s.N, s.Seg, s.Size)
}

func TestP9_10Again(t *testing.T) {
	for _, c := range counts() {
		for _, asked := range askedSegs() {
			p := api.Params{K: c[0], N: c[1], Seg: asked}
			for _, size := range sizes(shapeOf(c[0], c[1], asked, 33).Seg) {
				s, e := cut.Shape(p, size)
				if e != api.OK {
					continue
				}
				if !cut.Fits(s) {
					t.Errorf("a shape that does not fit: %+v", s)
				}
				if again, e := cut.Again(s.K, s.N, s.Seg, s.Size); again != s || e != api.OK {
					t.Errorf("%+v: %+v, %d", s, again, e)
				}
				if s.Seg > 65536 {
					continue
				}
				p := api.Params{K: c[0], N: c[1], Seg: s.Seg}
				if same, e := cut.Shape(p, size); same != s || e != api.OK {
					t.Errorf("%+v: %+v, %d", s, same, e)
				}
			}
		}
	}
}

func TestP9_10NoFewerSegments(t *testing.T) {
	for _, c := range counts() {
		for _, asked := range []int{1, 2, 10, 64, 300} {
			segs := 1
			for size := 33; size < 3000; size++ {
				s, e := cut.Shape(api.Params{K: c[0], N: c[1], Seg: asked}, size)
				if e != api.OK {
					continue
				}
				if s.Segs < segs || s.Segs > segs+1 && size > 33 {
					t.Fatalf("%v, %d, %d: %d behind %d", c, asked, size, s.Segs, segs)
				}
				segs = s.Segs
			}
		}
	}
}

func TestExamplesOfShapes(t *testing.T) {
	p := api.Params{K: 3, N: 5, Seg: 10}
	hundred := api.Shape{K: 3, N: 5, Seg: 12, Size: 100, Segs: 9, Tail: 4, Block: 4, LastBlock: 2}
	for _, x := range []struct {
		size int
		s    api.Shape
		e    api.Errno
	}{
		{100, hundred, api.OK},
		{36, api.Shape{K: 3, N: 5, Seg: 12, Size: 36, Segs: 3, Tail: 12, Block: 4, LastBlock: 4}, api.OK},
		{32, api.Shape{}, api.ErrSize},
		{6145, api.Shape{}, api.ErrParams},
		{6144, api.Shape{K: 3, N: 5, Seg: 12, Size: 6144, Segs: 512, Tail: 12, Block: 4, LastBlock: 4}, api.OK},
	} {
		if s, e := cut.Shape(p, x.size); s != x.s || e != x.e {
			t.Errorf("%d: %+v, %d", x.size, s, e)
		}
	}
	if s, e := cut.Again(3, 5, 12, 100); s != hundred || e != api.OK {
		t.Error(s, e)
	}
	for _, seg := range []int{13, 65541} {
		if s, e := cut.Again(3, 5, seg, 100); s != (api.Shape{}) || e != api.ErrShape {
			t.Error(seg, s, e)
		}
	}
	want := api.Shape{K: 3, N: 5, Seg: 65538, Size: 100, Segs: 1, Tail: 100, Block: 21846, LastBlock: 34}
	if s, e := cut.Again(3, 5, 65538, 100); s != want || e != api.OK {
		t.Error(s, e)
	}
}

// R3: the secret and its spare room stay as they are.
func TestSecretStays(t *testing.T) {
	all := bytes.Repeat([]byte{9}, 80)
	p := api.Params{K: 3, N: 5, Seg: 10, Secret: all[:5]}
	cut.Check(p)
	cut.Shape(p, 100)
	if !bytes.Equal(all, bytes.Repeat([]byte{9}, 80)) || len(p.Secret) != 5 {
		t.Error("an argument was changed")
	}
}
