package cut_test

import (
	"bytes"
	"math"
	"slices"
	"testing"

	"strongroom/api"
	"strongroom/cut"
)

// counted gives n bytes, of which none is nought, and which are unlike from piece to piece.
func counted(n int) []byte {
	b := make([]byte, n)
	for i := range b {
		b[i] = byte(1 + (i+i/255)%255)
	}
	return b
}

// roomy gives a list with spare room behind it, and a function that tells whether all of it is as it was.
func roomy(list []byte) ([]byte, func() bool) {
	all := append(slices.Clone(list), 7, 7, 7)
	was := slices.Clone(all)
	return all[:len(list)], func() bool { return bytes.Equal(all, was) }
}

// spoil overwrites lists and their spare room.
func spoil(lists ...[]byte) {
	for _, l := range lists {
		l = l[:cap(l)]
		for i := range l {
			l[i] ^= 0xa5
		}
	}
}

func copied(blocks [][]byte) [][]byte {
	var out [][]byte
	for _, block := range blocks {
		out = append(out, slices.Clone(block))
	}
	return out
}

func same(a, b [][]byte) bool { return slices.EqualFunc(a, b, bytes.Equal) }

// fitting gives shapes small and great, with one segment and with 512, with full tails and tails of one byte.
func fitting() []api.Shape {
	return []api.Shape{
		shapeOf(3, 5, 10, 100), shapeOf(3, 5, 10, 36), shapeOf(3, 5, 10, 37), shapeOf(3, 5, 10, 6144),
		shapeOf(1, 1, 1, 33), shapeOf(1, 1, 1, 512), shapeOf(1, 1, 33, 33), shapeOf(1, 255, 32, 33), shapeOf(5, 5, 34, 33),
		shapeOf(255, 255, 1, 300), shapeOf(255, 255, 1, 33), shapeOf(255, 255, 65536, 65535), shapeOf(255, 255, 65536, 65536),
		shapeOf(3, 10, 65536, 65538), shapeOf(3, 10, 65536, 65539), shapeOf(2, 3, 32768, 1<<24), shapeOf(7, 9, 65536, 1<<24-1),
	}
}

// misfits gives shapes of which none fits.
func misfits() []api.Shape {
	out := []api.Shape{{}, {K: -1, N: -1, Seg: -1, Size: -1, Segs: -1, Tail: -1, Block: -1, LastBlock: -1}}
	for i := range 8 {
		s := shapeOf(3, 5, 10, 100)
		*fields(&s)[i]++
		if i != 1 { // another N may be
			out = append(out, s)
		}
		*fields(&s)[i] = 0
		out = append(out, s)
		*fields(&s)[i] = math.MaxInt
		out = append(out, s)
	}
	return out
}

func notThere(segs int) []int {
	return []int{-1, segs, segs + 1, -segs, 1 << 32, -1 << 32, math.MaxInt, math.MinInt}
}

// segmentsOf cuts a list, byte by byte.
func segmentsOf(b []byte, seg int) [][]byte {
	var out [][]byte
	for i, c := range b {
		if i%seg == 0 {
			out = append(out, nil)
		}
		out[len(out)-1] = append(out[len(out)-1], c)
	}
	return out
}

func TestP9_4Sizes(t *testing.T) {
	for _, s := range fitting() {
		for j := range s.Segs {
			seg, block := s.Seg, s.Seg/s.K
			if j == s.Segs-1 {
				seg, block = s.Tail, s.LastBlock
			}
			if n, e := cut.SegSize(s, j); n != seg || e != api.OK {
				t.Errorf("%+v, %d: %d, %d", s, j, n, e)
			}
			if n, e := cut.BlockSize(s, j); n != block || e != api.OK {
				t.Errorf("%+v, %d: %d, %d", s, j, n, e)
			}
		}
	}
}

func TestP9_4Refused(t *testing.T) {
	for _, call := range []func(api.Shape, int) (int, api.Errno){cut.SegSize, cut.BlockSize} {
		for _, s := range fitting() {
			for _, j := range notThere(s.Segs) {
				if n, e := call(s, j); n != 0 || e != api.ErrSegment {
					t.Errorf("%+v, %d: %d, %d", s, j, n, e)
				}
			}
		}
		for _, s := range misfits() {
			for _, j := range []int{0, -1, 8, 9, math.MaxInt} {
				if n, e := call(s, j); n != 0 || e != api.ErrShape {
					t.Errorf("%+v, %d: %d, %d", s, j, n, e)
				}
			}
		}
	}
}

func TestP9_5Segment(t *testing.T) {
	for _, s := range fitting() {
		b, stays := roomy(counted(s.Size))
		for j, want := range segmentsOf(b, s.Seg) {
			got, e := cut.Segment(s, b, j)
			if !bytes.Equal(got, want) || e != api.OK {
				t.Fatalf("%+v, %d: %d", s, j, e)
			}
			if j < 4 || j > s.Segs-3 {
				spoil(got)
				if !stays() {
					t.Fatalf("%+v, %d: an answer is a part of an argument", s, j)
				}
			}
		}
		if !stays() {
			t.Errorf("%+v: an argument was changed", s)
		}
	}
}

func TestP9_5SegmentRefused(t *testing.T) {
	refused := func(s api.Shape, b []byte, j int, want api.Errno) {
		t.Helper()
		if got, e := cut.Segment(s, b, j); len(got) != 0 || e != want {
			t.Errorf("%+v, %d bytes, %d: %v, %d", s, len(b), j, got, e)
		}
	}
	for _, s := range misfits() {
		for _, size := range []int{0, 99, 100, 101} {
			refused(s, counted(size), 0, api.ErrShape)
			refused(s, counted(size), -1, api.ErrShape)
		}
	}
	for _, s := range fitting() {
		b := counted(s.Size + 1)
		for _, short := range [][]byte{nil, {}, b[:1], b[:s.Tail-1], b[:s.Size-1], b} {
			refused(s, short, 0, api.ErrPieces)
			refused(s, short, s.Segs, api.ErrPieces)
			refused(s, short, -1, api.ErrPieces)
		}
		for _, j := range notThere(s.Segs) {
			refused(s, b[:s.Size], j, api.ErrSegment)
		}
	}
}

func TestP9_5Segments(t *testing.T) {
	for _, s := range fitting() {
		b, stays := roomy(counted(s.Size))
		want := segmentsOf(b, s.Seg)
		next := 0
		for j, segment := range cut.Segments(s, b) {
			if j != next || j >= len(want) || !bytes.Equal(segment, want[j]) {
				t.Fatalf("%+v: %d, where %d is due", s, j, next)
			}
			spoil(segment)
			next++
		}
		if next != s.Segs || !stays() {
			t.Errorf("%+v: %d segments; or an argument was changed", s, next)
		}
	}
}

func TestP9_5NoSegments(t *testing.T) {
	none := func(s api.Shape, b []byte) {
		t.Helper()
		all := cut.Segments(s, b)
		if all == nil {
			t.Fatal("nil")
		}
		for j, segment := range all {
			t.Fatalf("%+v, %d bytes: %d, %v", s, len(b), j, segment)
		}
	}
	for _, s := range misfits() {
		for _, size := range []int{0, 36, 99, 100, 101} {
			none(s, counted(size))
		}
	}
	for _, s := range fitting() {
		b := counted(s.Size + 1)
		for _, other := range [][]byte{nil, {}, b[:1], b[:s.Size-1], b} {
			none(s, other)
		}
	}
}

func TestP9_5SegmentsAsTheyWere(t *testing.T) {
	s := shapeOf(3, 5, 10, 100)
	b := counted(100)
	want := segmentsOf(counted(100), 12)
	all := cut.Segments(s, b)
	spoil(b)
	for round := range 3 {
		var got [][]byte
		for _, segment := range all {
			got = append(got, slices.Clone(segment))
			spoil(segment, b)
		}
		if !same(got, want) {
			t.Errorf("round %d: %v", round, got)
		}
	}
}

func TestP9_5SegmentsStandAlone(t *testing.T) {
	var kept [][]byte
	for _, segment := range cut.Segments(shapeOf(3, 5, 10, 100), counted(100)) {
		kept = append(kept, segment)
	}
	want := segmentsOf(counted(100), 12)
	for i := range kept {
		spoil(kept[i])
		want[i] = slices.Clone(kept[i])
		if !same(kept, want) {
			t.Fatalf("segment %d is a part of another one", i)
		}
	}
}

func TestP9_5SegmentsLeftEarly(t *testing.T) {
	want := segmentsOf(counted(100), 12)
	all := cut.Segments(shapeOf(3, 5, 10, 100), counted(100))
	for stop := range 9 {
		last := -1
		for j, segment := range all {
			if j != last+1 || !bytes.Equal(segment, want[j]) {
				t.Fatalf("left at %d: %d behind %d", stop, j, last)
			}
			if last = j; j == stop {
				break
			}
		}
		if last != stop {
			t.Errorf("left at %d: %d", stop, last)
		}
	}
}

func TestP9_5SegmentsWithinOneAnother(t *testing.T) {
	want := segmentsOf(counted(100), 12)
	all := cut.Segments(shapeOf(3, 5, 10, 100), counted(100))
	outer := 0
	for i, one := range all {
		inner := 0
		for j, other := range all {
			if j != inner || !bytes.Equal(other, want[j]) {
				t.Fatal(i, j, other)
			}
			spoil(other)
			inner++
		}
		if i != outer || inner != 9 || !bytes.Equal(one, want[i]) {
			t.Fatal(i, inner, one)
		}
		outer++
	}
	if outer != 9 {
		t.Error(outer)
	}
}

// blocksOf deals a segment's bytes out, one by one, into k blocks of the least size in which they have room.
func blocksOf(segment []byte, k int) [][]byte {
	size := 1
	for size*k < len(segment) {
		size++
	}
	blocks := make([][]byte, k)
	for i := range blocks {
		blocks[i] = make([]byte, size)
	}
	for i, c := range segment {
		blocks[i/size][i%size] = c
	}
	return blocks
}

// greatest tells how many bytes a segment of k blocks has at most.
func greatest(k int) int { return shapeOf(k, k, 65536, 33).Seg }

// blockCounts gives numbers of blocks, at both ends and between.
func blockCounts() []int { return []int{1, 2, 3, 4, 7, 16, 100, 127, 128, 254, 255} }

// segmentSizes gives sizes that a segment of k blocks may have, at both ends and between.
func segmentSizes(k int) []int {
	return []int{1, 2, 3, 4, 5, 6, 7, k, k + 1, 2*k - 1, 2 * k, 2*k + 1, 1000, 65535, 65536, greatest(k) - 1, greatest(k)}
}

func TestP9_6Blocks(t *testing.T) {
	for _, k := range blockCounts() {
		for _, size := range segmentSizes(k) {
			if size < 1 || size > greatest(k) {
				continue
			}
			segment, stays := roomy(counted(size))
			want := blocksOf(segment, k)
			got, e := cut.Blocks(segment, k)
			if !same(got, want) || e != api.OK {
				t.Fatalf("%d bytes, %d: %d", size, k, e)
			}
			for i := range got {
				spoil(got[i])
				want[i] = slices.Clone(got[i])
			}
			if !same(got, want) || !stays() {
				t.Errorf("%d bytes, %d: an answer's blocks hang together, or on the argument", size, k)
			}
		}
	}
}

func TestP9_6BlocksStandAlone(t *testing.T) {
	for k := 1; k < 8; k++ {
		got, _ := cut.Blocks(counted(11), k)
		want := copied(got)
		for i := range got {
			spoil(got[i])
			want[i] = slices.Clone(got[i])
			if !same(got, want) {
				t.Errorf("%d: block %d is a part of another one", k, i)
			}
		}
	}
}

func TestP9_6Refused(t *testing.T) {
	for _, k := range append(beyond(), 0, -3, 256, 257, 65536) {
		for _, segment := range [][]byte{nil, {1}, counted(255), counted(70000)} {
			if got, e := cut.Blocks(segment, k); len(got) != 0 || e != api.ErrParams {
				t.Errorf("%d bytes, %d: %v, %d", len(segment), k, got, e)
			}
		}
	}
	for k := 1; k <= 255; k++ {
		for _, segment := range [][]byte{nil, {}, make([]byte, 0, 9), counted(greatest(k) + 1), counted(2 * 65536)} {
			if got, e := cut.Blocks(segment, k); len(got) != 0 || e != api.ErrPieces {
				t.Errorf("%d bytes, %d: %d", len(segment), k, e)
			}
		}
		if got, e := cut.Blocks(counted(greatest(k)), k); len(got) != k || e != api.OK {
			t.Errorf("%d: %d, %d", k, len(got), e)
		}
	}
}

func TestP9_7Join(t *testing.T) {
	for _, k := range blockCounts() {
		for _, size := range segmentSizes(k) {
			if size < 1 || size > greatest(k) {
				continue
			}
			each := len(blocksOf(counted(size), k)[0])
			whole := counted(k * each) // no noughts stand behind the segment
			blocks := segmentsOf(whole, each)
			got, e := cut.Join(blocks, size)
			if !bytes.Equal(got, whole[:size]) || e != api.OK {
				t.Fatalf("%d blocks, %d: %d", k, size, e)
			}
			spoil(got)
			if !same(blocks, segmentsOf(whole, each)) {
				t.Errorf("%d blocks, %d: an answer is a part of an argument", k, size)
			}
		}
	}
}

func TestP9_7JoinLeavesArguments(t *testing.T) {
	one, oneStays := roomy([]byte{1, 2})
	other, otherStays := roomy([]byte{3, 4})
	blocks := [][]byte{one, other, {9, 9}, {9, 9}}
	got, e := cut.Join(blocks[:2], 3)
	if !bytes.Equal(got, []byte{1, 2, 3}) || e != api.OK {
		t.Error(got, e)
	}
	spoil(got)
	if !oneStays() || !otherStays() || !same(blocks, [][]byte{{1, 2}, {3, 4}, {9, 9}, {9, 9}}) {
		t.Error("an argument was changed")
	}
	alone, stays := roomy([]byte{5, 6, 7})
	got, e = cut.Join([][]byte{alone}, 3)
	spoil(got)
	if e != api.OK || !stays() {
		t.Error("an answer is a part of a block that stands alone")
	}
}

func TestP9_7Refused(t *testing.T) {
	refused := func(what string, blocks [][]byte, size int) {
		t.Helper()
		if got, e := cut.Join(blocks, size); len(got) != 0 || e != api.ErrPieces {
			t.Errorf("%s, %d: %d bytes, %d", what, size, len(got), e)
		}
	}
	many := segmentsOf(counted(256), 1)
	if got, e := cut.Join(many[:255], 255); !bytes.Equal(got, counted(255)) || e != api.OK {
		t.Error(got, e)
	}
	for _, size := range append(beyond(), 0, 1, 255, 256) {
		refused("no blocks", nil, size)
		refused("no blocks", [][]byte{}, size)
		refused("one block too many", many, size)
		refused("a block of no bytes", [][]byte{nil}, size)
		refused("blocks of no bytes", [][]byte{{}, nil, {}}, size)
	}
	three := [][]byte{{1, 2}, {3, 4}, {5, 6}}
	for _, size := range append(beyond(), 0, 1, 2, 3, 7, 8, 12) {
		refused("three blocks of two", three, size)
	}
	for i := range three {
		for _, block := range [][]byte{nil, {1}, {1, 2, 3}} {
			blocks := slices.Clone(three)
			blocks[i] = block
			for size := range 10 {
				refused("a block of another length", blocks, size)
			}
		}
	}
}

func TestP9_7Greatest(t *testing.T) {
	for k := 1; k <= 255; k++ {
		size := greatest(k)
		whole := counted(size + k)
		if got, e := cut.Join(segmentsOf(whole[:size], size/k), size); !bytes.Equal(got, whole[:size]) || e != api.OK {
			t.Errorf("%d: %d", k, e)
		}
		if got, e := cut.Join(segmentsOf(whole, size/k+1), size+1); len(got) != 0 || e != api.ErrPieces {
			t.Errorf("%d: a byte too many: %d", k, e)
		}
	}
}

func TestP9_8Cover(t *testing.T) {
	for _, s := range []api.Shape{shapeOf(3, 5, 10, 100), shapeOf(3, 5, 10, 36), shapeOf(3, 5, 10, 37), shapeOf(1, 1, 1, 40), shapeOf(5, 5, 65536, 50)} {
		for at := -3; at < s.Size+3; at++ {
			for n := -3; n < s.Size+6; n++ {
				first, last, want := 0, 0, api.ErrSegment
				if at >= 0 && n >= 1 && at+n <= s.Size {
					first, last, want = at/s.Seg, (at+n-1)/s.Seg, api.OK
				}
				if x, y, e := cut.Cover(s, at, n); x != first || y != last || e != want {
					t.Fatalf("%+v, %d, %d: %d, %d, %d", s, at, n, x, y, e)
				}
			}
		}
	}
}

func TestP9_8CoverOfSegments(t *testing.T) {
	for _, s := range fitting() {
		at := 0
		for j := range s.Segs {
			n, _ := cut.SegSize(s, j)
			if x, y, e := cut.Cover(s, at, n); x != j || y != j || e != api.OK {
				t.Fatalf("%+v, %d: %d, %d, %d", s, j, x, y, e)
			}
			at += n
		}
		if x, y, e := cut.Cover(s, 0, s.Size); x != 0 || y != s.Segs-1 || e != api.OK {
			t.Errorf("%+v: %d, %d, %d", s, x, y, e)
		}
	}
}

func TestP9_8Refused(t *testing.T) {
	for _, s := range fitting() {
		for _, far := range beyond() {
			for _, near := range append(beyond(), 0, 1, 2, 33, s.Size) {
				if x, y, e := cut.Cover(s, far, near); x != 0 || y != 0 || e != api.ErrSegment {
					t.Errorf("%+v, %d, %d: %d, %d, %d", s, far, near, x, y, e)
				}
				if x, y, e := cut.Cover(s, near, far); x != 0 || y != 0 || e != api.ErrSegment {
					t.Errorf("%+v, %d, %d: %d, %d, %d", s, near, far, x, y, e)
				}
			}
		}
	}
	for _, s := range misfits() {
		for _, c := range [][2]int{{0, 1}, {11, 2}, {-1, 1}, {0, 0}, {99, 2}, {math.MaxInt, math.MaxInt}} {
			if x, y, e := cut.Cover(s, c[0], c[1]); x != 0 || y != 0 || e != api.ErrShape {
				t.Errorf("%+v, %v: %d, %d, %d", s, c, x, y, e)
			}
		}
	}
}

func TestP9_9SegmentsAreTheFile(t *testing.T) {
	for _, s := range fitting() {
		b := counted(s.Size)
		sum := 0
		var one, all []byte
		for j := range s.Segs {
			n, _ := cut.SegSize(s, j)
			sum += n
			segment, _ := cut.Segment(s, b, j)
			one = append(one, segment...)
		}
		for _, segment := range cut.Segments(s, b) {
			all = append(all, segment...)
		}
		if sum != s.Size || !bytes.Equal(one, b) || !bytes.Equal(all, b) {
			t.Errorf("%+v: %d bytes, %d, %d", s, sum, len(one), len(all))
		}
	}
}

func TestP9_9ThereAndBack(t *testing.T) {
	for k := 1; k <= 255; k++ {
		for _, size := range segmentSizes(k) {
			if size < 1 || size > greatest(k) {
				continue
			}
			segment := counted(size)
			blocks, e := cut.Blocks(segment, k)
			got, f := cut.Join(blocks, size)
			if e != api.OK || f != api.OK || !bytes.Equal(got, segment) {
				t.Fatalf("%d bytes, %d: %d, %d", size, k, e, f)
			}
		}
	}
}

func TestP9_9BlocksOfSegments(t *testing.T) {
	for _, s := range fitting() {
		for j, segment := range cut.Segments(s, counted(s.Size)) {
			blocks, e := cut.Blocks(segment, s.K)
			each, f := cut.BlockSize(s, j)
			if e != api.OK || f != api.OK || len(blocks) != s.K || len(blocks[0]) != each || len(blocks[s.K-1]) != each {
				t.Fatalf("%+v, %d: %d blocks, %d, %d", s, j, len(blocks), e, f)
			}
		}
	}
}

func TestExamplesOfCuts(t *testing.T) {
	s := shapeOf(3, 5, 10, 100)
	if n, e := cut.SegSize(s, 8); n != 4 || e != api.OK {
		t.Error(n, e)
	}
	if n, e := cut.BlockSize(s, 8); n != 2 || e != api.OK {
		t.Error(n, e)
	}
	if n, e := cut.SegSize(s, 9); n != 0 || e != api.ErrSegment {
		t.Error(n, e)
	}
	blocks, e := cut.Blocks([]byte{1, 2, 3, 4}, 3)
	if !same(blocks, [][]byte{{1, 2}, {3, 4}, {0, 0}}) || e != api.OK {
		t.Error(blocks, e)
	}
	for size, want := range map[int][]byte{4: {1, 2, 3, 4}, 5: {1, 2, 3, 4, 0}} {
		if b, e := cut.Join(blocks, size); !bytes.Equal(b, want) || e != api.OK {
			t.Error(size, b, e)
		}
	}
	if b, e := cut.Join(blocks, 7); len(b) != 0 || e != api.ErrPieces {
		t.Error(b, e)
	}
	if blocks, e := cut.Blocks([]byte{1}, 3); !same(blocks, [][]byte{{1}, {0}, {0}}) || e != api.OK {
		t.Error(blocks, e)
	}
	if blocks, e := cut.Blocks(nil, 3); len(blocks) != 0 || e != api.ErrPieces {
		t.Error(blocks, e)
	}
	if x, y, e := cut.Cover(s, 11, 2); x != 0 || y != 1 || e != api.OK {
		t.Error(x, y, e)
	}
	if x, y, e := cut.Cover(s, 99, 2); x != 0 || y != 0 || e != api.ErrSegment {
		t.Error(x, y, e)
	}
}
