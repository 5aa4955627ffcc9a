package share_test

import (
	"bytes"
	"crypto/sha256"
	"encoding/binary"
	"fmt"
	"math"
	"math/rand/v2"
	"reflect"
	"slices"
	"testing"

	"strongroom/api"
	"strongroom/cut"
	"strongroom/share"
	"strongroom/tag"
	"strongroom/tree"
	"strongroom/ueb"
)

// roomy gives a list with spare room, and tells later whether it and its room are as they were.
func roomy[T any](list []T) ([]T, func() bool) {
	var fill [3]T
	all := append(slices.Clone(list), fill[:]...)
	was := slices.Clone(all)
	return all[:len(list)], func() bool { return reflect.DeepEqual(all, was) }
}

// spoil overwrites a list and its spare room.
func spoil(l []byte) {
	l = l[:cap(l)]
	for i := range l {
		l[i] ^= 0xa5
	}
}

// spoilDigests overwrites a list and its spare room.
func spoilDigests(l []api.Digest) {
	l = l[:cap(l)]
	for i := range l {
		l[i][3] ^= 0xa5
	}
}

// digest gives a digest that looks like no rule.
func digest(seed int) api.Digest {
	return sha256.Sum256([]byte{byte(seed), byte(seed >> 8), byte(seed >> 16)})
}

// digests gives so many of them.
func digests(n, seed int) []api.Digest {
	var out []api.Digest
	for i := range n {
		out = append(out, digest(seed+i))
	}
	return out
}

// shapeOf gives a shape that fits.
func shapeOf(t *testing.T, k, n, seg, size int) api.Shape {
	t.Helper()
	s, e := cut.Again(k, n, seg, size)
	if e != api.OK {
		t.Fatal(k, n, seg, size, e)
	}
	return s
}

// fours are K, N, Seg and Size of shapes, at their edges and between.
func fours() [][4]int {
	return [][4]int{
		{1, 1, 50, 60}, {1, 1, 33, 33}, {1, 1, 1, 33}, {1, 1, 1, 512}, {1, 2, 40, 60}, {1, 3, 50, 60}, {3, 5, 12, 100}, {3, 10, 66, 1000}, {2, 4, 10, 50}, {2, 2, 100, 33},
		{3, 3, 300, 34}, {255, 255, 255, 300}, {1, 255, 20, 200}, {4, 129, 40, 333}, {4, 128, 40, 333}, {5, 7, 5, 2560}, {3, 5, 12, 6144}, {7, 9, 14, 45}, {2, 3, 34, 1054},
	}
}

// greatest are those of shapes that are great in one of their numbers or in several.
func greatest() [][4]int {
	return [][4]int{{1, 255, 32768, 1 << 24}, {1, 255, 65536, 1 << 24}, {1, 1, 65536, 1 << 24}, {255, 255, 65790 - 255, 1 << 24}, {2, 255, 32768, 1 << 24}, {1, 255, 32768, 1<<24 - 32767}, {1, 1, 1, 512}, {255, 255, 65535, 33}}
}

// treeNodes tells how many nodes a tree over leaves has; depth how many of them beside a way up.
func treeNodes(leaves int) int { return 2<<depth(leaves) - 1 }

func depth(leaves int) int {
	d := 0
	for 1<<d < leaves {
		d++
	}
	return d
}

// anyFront gives a front of which the digests lead nowhere.
func anyFront(t *testing.T, four [4]int, number int) api.Front {
	t.Helper()
	s := shapeOf(t, four[0], four[1], four[2], four[3])
	return api.Front{
		Number: number, Ueb: api.Ueb{K: s.K, N: s.N, Seg: s.Seg, Size: s.Size, Shares: digest(900), Segs: digest(901)},
		Chain: digests(depth(s.N), 1000), Blocks: digests(treeNodes(s.Segs), 2000), Segs: digests(treeNodes(s.Segs), 4000),
	}
}

// anyShare gives a share of any bytes behind such a front.
func anyShare(t *testing.T, four [4]int, number int) api.Share {
	t.Helper()
	s := shapeOf(t, four[0], four[1], four[2], four[3])
	out := api.Share{Front: anyFront(t, four, number)}
	for j := range s.Segs {
		out.Data = append(out.Data, anyBlock(s, j))
	}
	return out
}

func anyBlock(s api.Shape, j int) []byte {
	b := make([]byte, s.Block)
	if j == s.Segs-1 {
		b = make([]byte, s.LastBlock)
	}
	for i := range b {
		b[i] = byte(i*7 + j*31 + 1)
	}
	return b
}

// soundShare gives a share of which all leads up to its Ueb.
func soundShare(t *testing.T, four [4]int, number int) api.Share {
	t.Helper()
	s := anyShare(t, four, number)
	var leaves []api.Digest
	for _, block := range s.Data {
		leaves = append(leaves, tag.Block(block))
	}
	s.Front.Blocks, _ = tree.Build(leaves)
	s.Front.Segs, _ = tree.Build(digests(len(s.Data), 6000))
	s.Front.Ueb.Segs = s.Front.Segs[0]
	s.Front.Ueb.Shares, _ = tree.Climb(four[1], number, tag.Root(s.Front.Blocks[0]), s.Front.Chain)
	return s
}

// copyOf gives a share that has nothing in common with s.
func copyOf(s api.Share) api.Share {
	s.Front.Chain, s.Front.Blocks, s.Front.Segs = slices.Clone(s.Front.Chain), slices.Clone(s.Front.Blocks), slices.Clone(s.Front.Segs)
	s.Data = slices.Clone(s.Data)
	for j, block := range s.Data {
		s.Data[j] = bytes.Clone(block)
	}
	return s
}

// written reckons the bytes of a share by the chapter's table; the front's are the first ones, as many as the second answer tells.
func written(s api.Share) ([]byte, int) {
	f := s.Front
	bound, _ := ueb.Write(f.Ueb)
	size := 0
	for _, block := range s.Data {
		size += len(block)
	}
	u := len(bound)
	chain, blocks, segs := 32*len(f.Chain), 32*len(f.Blocks), 32*len(f.Segs)
	front := 36 + u + chain + blocks + segs
	var b []byte
	for _, x := range []int{0x524f4f4d, 1, f.Number, 36, 36 + u, 36 + u + chain, 36 + u + chain + blocks, front, front + size} {
		b = binary.BigEndian.AppendUint32(b, uint32(x))
	}
	b = append(b, bound...)
	for _, list := range [][]api.Digest{f.Chain, f.Blocks, f.Segs} {
		for _, d := range list {
			b = append(b, d[:]...)
		}
	}
	return append(b, bytes.Join(s.Data, nil)...), front
}

// frontBytes gives the bytes of a front with a share's last word as it must be.
func frontBytes(t *testing.T, four [4]int, number int) []byte {
	t.Helper()
	b, front := written(anyShare(t, four, number))
	return b[:front]
}

func numbersOf(n int) []int {
	if n == 1 {
		return []int{0}
	}
	return []int{0, n / 2, n - 1}
}

func TestP14_1Lengths(t *testing.T) {
	for _, four := range append(fours(), greatest()...) {
		s := shapeOf(t, four[0], four[1], four[2], four[3])
		u, _ := ueb.Length(api.Ueb{K: s.K, N: s.N, Seg: s.Seg, Size: s.Size})
		front := 36 + u + 32*depth(s.N) + 64*treeNodes(s.Segs)
		whole := front + (s.Segs-1)*s.Block + s.LastBlock
		if n, e := share.FrontLen(s); n != front || e != api.OK {
			t.Errorf("%v: front %d, %d, want %d", four, n, e, front)
		}
		if n, e := share.Len(s); n != whole || e != api.OK {
			t.Errorf("%v: whole %d, %d, want %d", four, n, e, whole)
		}
	}
}

// unshaped gives shapes that do not fit.
func unshaped(t *testing.T) []api.Shape {
	t.Helper()
	out := []api.Shape{{}, {K: math.MaxInt, N: math.MaxInt, Seg: math.MaxInt, Size: math.MaxInt, Segs: math.MaxInt, Tail: math.MaxInt, Block: math.MaxInt, LastBlock: math.MaxInt}}
	for field := range 8 {
		for _, by := range []int{1, -1, math.MinInt, math.MaxInt} {
			s := shapeOf(t, 3, 5, 12, 100)
			place := []*int{&s.K, &s.N, &s.Seg, &s.Size, &s.Segs, &s.Tail, &s.Block, &s.LastBlock}[field]
			if *place += by; cut.Fits(s) {
				// One N more or fewer is as good a shape.
				continue
			}
			out = append(out, s)
		}
	}
	out = append(out, api.Shape{K: 1, N: 256, Seg: 50, Size: 60, Segs: 2, Tail: 10, Block: 50, LastBlock: 10}, api.Shape{K: 1, N: 1, Seg: 32, Size: 32, Segs: 1, Tail: 32, Block: 32, LastBlock: 32})
	return append(out, api.Shape{K: 1, N: 1, Seg: 1, Size: 513, Segs: 513, Tail: 1, Block: 1, LastBlock: 1}, api.Shape{K: 1, N: 1, Seg: 65537, Size: 65537, Segs: 1, Tail: 65537, Block: 65537, LastBlock: 65537})
}

func TestP14_1Refused(t *testing.T) {
	all := unshaped(t)
	if len(all) < 30 {
		t.Fatal("only", len(all), "shapes")
	}
	for _, s := range all {
		if n, e := share.FrontLen(s); n != 0 || e != api.ErrParams {
			t.Errorf("%+v: %d, %d", s, n, e)
		}
		if n, e := share.Len(s); n != 0 || e != api.ErrParams {
			t.Errorf("%+v: %d, %d", s, n, e)
		}
		for _, seg := range []int{0, -1, 1, math.MaxInt, math.MinInt} {
			if at, n, e := share.Place(s, seg); at != 0 || n != 0 || e != api.ErrParams {
				t.Errorf("%+v, %d: %d, %d, %d", s, seg, at, n, e)
			}
		}
	}
}

func TestP14_1Place(t *testing.T) {
	for _, four := range append(fours(), greatest()...) {
		s := shapeOf(t, four[0], four[1], four[2], four[3])
		front, _ := share.FrontLen(s)
		for _, seg := range []int{0, 1, s.Segs / 2, s.Segs - 2, s.Segs - 1} {
			if seg < 0 || seg >= s.Segs {
				continue
			}
			want := s.Block
			if seg == s.Segs-1 {
				want = s.LastBlock
			}
			if at, n, e := share.Place(s, seg); at != front+seg*s.Block || n != want || e != api.OK {
				t.Errorf("%v, %d: %d, %d, %d", four, seg, at, n, e)
			}
		}
		for _, seg := range []int{-1, s.Segs, s.Segs + 1, math.MaxInt, math.MinInt} {
			if at, n, e := share.Place(s, seg); at != 0 || n != 0 || e != api.ErrArg {
				t.Errorf("%v, %d: %d, %d, %d", four, seg, at, n, e)
			}
		}
	}
}

func TestP14_2Written(t *testing.T) {
	for _, four := range fours() {
		for _, number := range numbersOf(four[1]) {
			s := anyShare(t, four, number)
			want, front := written(s)
			if b, e := share.PackFront(s.Front); !bytes.Equal(b, want[:front]) || e != api.OK {
				t.Errorf("%v, %d: front %x, %d", four, number, b, e)
			}
			if b, e := share.Pack(s); !bytes.Equal(b, want) || e != api.OK {
				t.Errorf("%v, %d: %x, %d", four, number, b, e)
			}
		}
	}
}

// spoiled are changes of a share by which its parts do not go together any more: those of the front, and those of the blocks.
func spoiled() (front, data map[string]func(*api.Share)) {
	front = map[string]func(*api.Share){
		"number -1":       func(s *api.Share) { s.Front.Number = -1 },
		"number N":        func(s *api.Share) { s.Front.Number = s.Front.Ueb.N },
		"number least":    func(s *api.Share) { s.Front.Number = math.MinInt },
		"number greatest": func(s *api.Share) { s.Front.Number = math.MaxInt },
		"number 2^32":     func(s *api.Share) { s.Front.Number = 1 << 32 },
		"no Ueb":          func(s *api.Share) { s.Front.Ueb = api.Ueb{} },
		"Seg no multiple": func(s *api.Share) { s.Front.Ueb.Seg++ },
		"K above N":       func(s *api.Share) { s.Front.Ueb.K = s.Front.Ueb.N + 1 },
		"Size literal":    func(s *api.Share) { s.Front.Ueb.Size = 32 },
		"Size above":      func(s *api.Share) { s.Front.Ueb.Size = 1<<24 + 1 },
		"chain longer":    func(s *api.Share) { s.Front.Chain = append(s.Front.Chain, digest(1)) },
		"chain shorter":   func(s *api.Share) { s.Front.Chain = s.Front.Chain[1:] },
		"no chain":        func(s *api.Share) { s.Front.Chain = nil },
		"blocks longer":   func(s *api.Share) { s.Front.Blocks = append(s.Front.Blocks, digest(1)) },
		"blocks shorter":  func(s *api.Share) { s.Front.Blocks = s.Front.Blocks[1:] },
		"no blocks":       func(s *api.Share) { s.Front.Blocks = nil },
		"segs longer":     func(s *api.Share) { s.Front.Segs = append(s.Front.Segs, digest(1)) },
		"segs shorter":    func(s *api.Share) { s.Front.Segs = s.Front.Segs[1:] },
		"no segs":         func(s *api.Share) { s.Front.Segs = nil },
		"one to the next": func(s *api.Share) {
			s.Front.Chain, s.Front.Blocks = append(s.Front.Chain, digest(1)), s.Front.Blocks[1:]
		},
		"another size's":    func(s *api.Share) { s.Front.Ueb.Size += 2 * s.Front.Ueb.Seg * len(s.Data) },
		"another N's chain": func(s *api.Share) { s.Front.Ueb.N *= 2 },
	}
	data = map[string]func(*api.Share){
		"no data":          func(s *api.Share) { s.Data = nil },
		"one block fewer":  func(s *api.Share) { s.Data = s.Data[1:] },
		"the last lacks":   func(s *api.Share) { s.Data = s.Data[:len(s.Data)-1] },
		"one block more":   func(s *api.Share) { s.Data = append(s.Data, slices.Clone(s.Data[0])) },
		"an empty one too": func(s *api.Share) { s.Data = append(s.Data, nil) },
		"first longer":     func(s *api.Share) { s.Data[0] = append(s.Data[0], 0) },
		"first shorter":    func(s *api.Share) { s.Data[0] = s.Data[0][1:] },
		"last longer":      func(s *api.Share) { s.Data[len(s.Data)-1] = append(s.Data[len(s.Data)-1], 0) },
		"last shorter":     func(s *api.Share) { s.Data[len(s.Data)-1] = s.Data[len(s.Data)-1][1:] },
		"last whole":       func(s *api.Share) { s.Data[len(s.Data)-1] = slices.Clone(s.Data[0]) },
		"middle nil":       func(s *api.Share) { s.Data[1] = nil },
		"a byte moved": func(s *api.Share) {
			s.Data[0], s.Data[1] = append(s.Data[0], s.Data[1][0]), s.Data[1][1:]
		},
	}
	return front, data
}

func TestP14_2Refused(t *testing.T) {
	good := soundShare(t, [4]int{3, 5, 12, 100}, 2)
	front, data := spoiled()
	for what, change := range front {
		s := copyOf(good)
		change(&s)
		if b, e := share.PackFront(s.Front); len(b) != 0 || e != api.ErrSpread {
			t.Errorf("front, %s: %x, %d", what, b, e)
		}
		if b, e := share.Pack(s); len(b) != 0 || e != api.ErrSpread {
			t.Errorf("%s: %x, %d", what, b, e)
		}
		if share.Sound(s) {
			t.Errorf("%s: sound", what)
		}
	}
	for what, change := range data {
		s := copyOf(good)
		change(&s)
		if b, e := share.PackFront(s.Front); len(b) == 0 || e != api.OK {
			t.Errorf("front, %s: %x, %d", what, b, e)
		}
		if b, e := share.Pack(s); len(b) != 0 || e != api.ErrSpread {
			t.Errorf("%s: %x, %d", what, b, e)
		}
		if share.Sound(s) {
			t.Errorf("%s: sound", what)
		}
	}
	if b, e := share.Pack(api.Share{}); len(b) != 0 || e != api.ErrSpread || share.Sound(api.Share{}) {
		t.Errorf("nothing: %x, %d", b, e)
	}
}

// TestP14_2OneSegment: the only block is the last one, and has LastBlock bytes, not Block.
func TestP14_2OneSegment(t *testing.T) {
	s := anyShare(t, [4]int{3, 3, 300, 34}, 1)
	if len(s.Data) != 1 || len(s.Data[0]) != 12 {
		t.Fatal(s.Data)
	}
	s.Data[0] = make([]byte, 100)
	if _, e := share.Pack(s); e != api.ErrSpread {
		t.Error(e)
	}
}

func TestP14_2OwnMemory(t *testing.T) {
	good := anyShare(t, [4]int{3, 5, 12, 100}, 2)
	want, front := written(good)
	s := copyOf(good)
	var stay []func() bool
	keep := func(same func() bool) { stay = append(stay, same) }
	var same func() bool
	s.Front.Chain, same = roomy(s.Front.Chain)
	keep(same)
	s.Front.Blocks, same = roomy(s.Front.Blocks)
	keep(same)
	s.Front.Segs, same = roomy(s.Front.Segs)
	keep(same)
	for j := range s.Data {
		s.Data[j], same = roomy(s.Data[j])
		keep(same)
	}
	s.Data, same = roomy(s.Data)
	keep(same)
	one, _ := share.Pack(s)
	f, _ := share.PackFront(s.Front)
	spoil(one)
	two, _ := share.Pack(s)
	if !bytes.Equal(two, want) || !bytes.Equal(f, want[:front]) {
		t.Errorf("%x, %x", two, f)
	}
	spoil(f)
	share.Sound(s)
	for i, same := range stay {
		if !same() {
			t.Error("list", i, "was changed")
		}
	}
	if !bytes.Equal(two, want) {
		t.Error("the answers share memory")
	}
}

// place tells in the chapter's words where the first fault of bytes is; whole: of a share, else of a front.
func place(b []byte, whole bool) (int, bool) {
	if len(b) < 36 {
		return len(b), false
	}
	word := func(at int) int { return int(binary.BigEndian.Uint32(b[at:])) }
	if word(0) != 0x524f4f4d {
		return 0, false
	}
	if word(4) != 1 {
		return 4, false
	}
	if word(12) != 36 {
		return 12, false
	}
	if word(16) < 36 || word(16) > len(b) {
		return 16, false
	}
	u, _, e := ueb.Read(b[36:word(16)])
	if e != api.OK {
		return 36, false
	}
	if word(8) >= u.N {
		return 8, false
	}
	s, _ := cut.Again(u.K, u.N, u.Seg, u.Size)
	at := word(16)
	for i, n := range []int{32 * depth(u.N), 32 * treeNodes(s.Segs), 32 * treeNodes(s.Segs), (s.Segs-1)*s.Block + s.LastBlock} {
		if at += n; word(20+4*i) != at {
			return 20 + 4*i, false
		}
	}
	must := word(28)
	if whole {
		must = word(32)
	}
	if len(b) != must {
		return min(len(b), must), false
	}
	return 0, true
}

// wantFront holds OpenFront against place, and what it takes against the bytes.
func wantFront(t *testing.T, what string, b []byte) {
	t.Helper()
	list, stays := roomy(b)
	f, at, e := share.OpenFront(list)
	if !stays() {
		t.Errorf("%s: the argument was changed", what)
	}
	wanted, is := place(b, false)
	if !is {
		if at != wanted || e != api.ErrShare || !reflect.DeepEqual(f, api.Front{}) {
			t.Errorf("%s: %+v, %d, %d, want %d", what, f, at, e, wanted)
		}
		return
	}
	back, g := share.PackFront(f)
	if at != 0 || e != api.OK || g != api.OK || !bytes.Equal(back, b) {
		t.Errorf("%s: %d, %d, %d", what, at, e, g)
	}
}

// wantShare does so with Open.
func wantShare(t *testing.T, what string, b []byte) {
	t.Helper()
	list, stays := roomy(b)
	s, at, e := share.Open(list)
	if !stays() {
		t.Errorf("%s: the argument was changed", what)
	}
	wanted, is := place(b, true)
	if !is {
		if at != wanted || e != api.ErrShare || !reflect.DeepEqual(s, api.Share{}) {
			t.Errorf("%s: %+v, %d, %d, want %d", what, s, at, e, wanted)
		}
		return
	}
	back, g := share.Pack(s)
	if at != 0 || e != api.OK || g != api.OK || !bytes.Equal(back, b) {
		t.Errorf("%s: %d, %d, %d", what, at, e, g)
	}
}

func TestP14_3OpenFront(t *testing.T) {
	for _, four := range fours() {
		for _, number := range numbersOf(four[1]) {
			want := anyFront(t, four, number)
			f, at, e := share.OpenFront(frontBytes(t, four, number))
			if at != 0 || e != api.OK || !sameFront(f, want) {
				t.Errorf("%v, %d: %+v, %d, %d", four, number, f, at, e)
			}
		}
	}
}

// sameFront holds fronts against each other: nil and a list without elements are one thing.
func sameFront(a, b api.Front) bool {
	return a.Number == b.Number && a.Ueb == b.Ueb && slices.Equal(a.Chain, b.Chain) && slices.Equal(a.Blocks, b.Blocks) && slices.Equal(a.Segs, b.Segs)
}

func sameShare(a, b api.Share) bool {
	return sameFront(a.Front, b.Front) && slices.EqualFunc(a.Data, b.Data, bytes.Equal)
}

// words are the places of the head's words.
func words() []int { return []int{0, 4, 8, 12, 16, 20, 24, 28, 32} }

// put gives bytes with another word at a place.
func put(b []byte, at int, word uint32) []byte {
	c := bytes.Clone(b)
	binary.BigEndian.PutUint32(c[at:], word)
	return c
}

// others are words that may stand where another must.
func others(b []byte, at int) []uint32 {
	x := binary.BigEndian.Uint32(b[at:])
	return []uint32{x + 1, x - 1, 0, 1, 35, 36, 37, math.MaxUint32, math.MaxInt32, 1 << 31, x << 8, x ^ 1<<24, x ^ 1<<16, x + 32, x - 32, uint32(len(b)), uint32(len(b) + 1), uint32(len(b) - 1)}
}

func TestP14_3Words(t *testing.T) {
	for _, four := range [][4]int{{1, 1, 50, 60}, {3, 5, 12, 100}, {1, 255, 20, 200}} {
		b := frontBytes(t, four, 0)
		for _, at := range words() {
			for _, x := range others(b, at) {
				wantFront(t, fmt.Sprint(four, at, x), put(b, at, x))
			}
		}
	}
}

// TestP14_3Order: of two faults that one is told which the chapter names first.
func TestP14_3Order(t *testing.T) {
	b := frontBytes(t, [4]int{3, 5, 12, 100}, 1)
	order := []int{0, 4, 12, 16, 36, 8, 20, 24, 28, 32, len(b) - 1}
	spoil := map[int]func([]byte) []byte{
		36:         func(b []byte) []byte { b[36] = 'x'; return b },
		len(b) - 1: func(b []byte) []byte { return b[:len(b)-1] },
	}
	for _, at := range words() {
		spoil[at] = func(b []byte) []byte { b[at] ^= 0x80; return b }
	}
	for i, first := range order {
		for _, second := range order[i:] {
			c := spoil[first](bytes.Clone(b))
			if second != first {
				c = spoil[second](c)
			}
			if f, at, e := share.OpenFront(c); at != first || e != api.ErrShare || !reflect.DeepEqual(f, api.Front{}) {
				t.Errorf("%d and %d: %+v, %d, %d", first, second, f, at, e)
			}
		}
	}
}

func TestP14_3Lengths(t *testing.T) {
	for _, four := range [][4]int{{1, 1, 50, 60}, {3, 5, 12, 100}} {
		b, front := written(anyShare(t, four, 0))
		for n := range len(b) + 1 {
			wantFront(t, fmt.Sprint(four, n), b[:n])
			wantShare(t, fmt.Sprint(four, n), b[:n])
		}
		for _, more := range []int{1, 31, 32, 1000, 1 << 17} {
			wantShare(t, fmt.Sprint(four, "more", more), append(bytes.Clone(b), make([]byte, more)...))
			wantFront(t, fmt.Sprint(four, "more", more), append(bytes.Clone(b[:front]), make([]byte, more)...))
		}
	}
	wantFront(t, "nil", nil)
	wantShare(t, "nil", nil)
	wantFront(t, "35 noughts", make([]byte, 35))
	wantFront(t, "36 noughts", make([]byte, 36))
}

// TestP14_3Bounds: the number is held against N, and the word at 16 against 36 and the end, at their edges.
func TestP14_3Bounds(t *testing.T) {
	b := frontBytes(t, [4]int{3, 5, 12, 100}, 1)
	for _, x := range []struct {
		what  string
		b     []byte
		at    int
		taken bool
	}{
		{"number 4", put(b, 8, 4), 0, true}, {"number 5", put(b, 8, 5), 8, false}, {"number 2^31", put(b, 8, 1<<31), 8, false}, {"number 2^32 - 1", put(b, 8, math.MaxUint32), 8, false},
		{"36", put(b, 16, 36), 36, false}, {"35", put(b, 16, 35), 16, false}, {"up to the end", put(b, 16, uint32(len(b))), 36, false}, {"beyond", put(b, 16, uint32(len(b)+1)), 16, false},
	} {
		_, at, e := share.OpenFront(x.b)
		if at != x.at || (e == api.OK) != x.taken {
			t.Errorf("%s: %d, %d", x.what, at, e)
		}
	}
}

// TestP14_3Uebs: bytes in the Ueb's place that are a table, but no Ueb's that may be.
func TestP14_3Uebs(t *testing.T) {
	s := anyShare(t, [4]int{3, 5, 12, 100}, 1)
	u := s.Front.Ueb
	rows := func(k, n, seg, size string) []byte {
		b, _ := ueb.Pack([]api.Row{{Name: "k", Value: []byte(k)}, {Name: "n", Value: []byte(n)}, {Name: "seg", Value: []byte(seg)}, {Name: "segments", Value: u.Segs[:]}, {Name: "shares", Value: u.Shares[:]}, {Name: "size", Value: []byte(size)}})
		return b
	}
	b, _ := written(s)
	end := int(binary.BigEndian.Uint32(b[16:]))
	for _, table := range [][]byte{rows("3", "2", "12", "100"), rows("3", "5", "13", "100"), rows("03", "5", "12", "100"), rows("3", "5", "12", "32"), rows("0", "5", "12", "100"), rows("3", "", "12", "100"), nil} {
		c := put(slices.Concat(b[:36], table, b[end:]), 16, uint32(36+len(table)))
		if _, at, e := share.OpenFront(c); at != 36 || e != api.ErrShare {
			t.Errorf("%q: %d, %d", table, at, e)
		}
		wantShare(t, string(table), c)
	}
	// Another Ueb that may be asks for other places.
	c := slices.Concat(b[:36], rows("3", "9", "12", "100"), b[end:])
	if _, at, e := share.OpenFront(c); at != 20 || e != api.ErrShare {
		t.Errorf("N 9: %d, %d", at, e)
	}
	c = slices.Concat(b[:36], rows("3", "5", "12", "108"), b[end:])
	if _, at, e := share.Open(c); at != 32 || e != api.ErrShare {
		t.Errorf("Size 108: %d, %d", at, e)
	}
}

func TestP14_3Drawn(t *testing.T) {
	draw := rand.New(rand.NewPCG(14, 3))
	taken := 0
	for _, four := range [][4]int{{1, 1, 50, 60}, {3, 5, 12, 100}, {2, 4, 10, 50}} {
		whole, front := written(anyShare(t, four, 0))
		for range 3000 {
			b := bytes.Clone(whole)
			for range 1 + draw.IntN(2) {
				b[draw.IntN(1<<draw.IntN(10))%len(b)] ^= 1 << draw.IntN(8)
			}
			if draw.IntN(3) == 0 {
				b = b[:draw.IntN(len(b)+1)]
			}
			wantShare(t, fmt.Sprintf("%x", b), b)
			if _, is := place(b, true); is {
				taken++
			}
			b = b[:min(front, len(b))]
			wantFront(t, fmt.Sprintf("%x", b), b)
		}
	}
	if taken < 100 {
		t.Errorf("only %d were taken", taken)
	}
}

func TestP14_4Open(t *testing.T) {
	for _, four := range fours() {
		for _, number := range numbersOf(four[1]) {
			want := anyShare(t, four, number)
			b, _ := written(want)
			s, at, e := share.Open(b)
			if at != 0 || e != api.OK || !sameShare(s, want) {
				t.Errorf("%v, %d: %+v, %d, %d", four, number, s, at, e)
			}
		}
	}
}

func TestP14_4Words(t *testing.T) {
	for _, four := range [][4]int{{1, 1, 50, 60}, {3, 5, 12, 100}, {3, 3, 300, 34}} {
		b, _ := written(anyShare(t, four, 0))
		for _, at := range words() {
			for _, x := range others(b, at) {
				wantShare(t, fmt.Sprint(four, at, x), put(b, at, x))
			}
		}
	}
}

func TestP14_4OwnMemory(t *testing.T) {
	want := anyShare(t, [4]int{3, 5, 12, 100}, 2)
	b, front := written(want)
	one, _, _ := share.Open(b)
	two, _, _ := share.Open(b)
	f, _, _ := share.OpenFront(b[:front])
	spoil(b)
	if !sameShare(one, want) || !sameFront(f, want.Front) {
		t.Fatal("what was answered hangs on the argument")
	}
	// Each list is spoiled in its turn, its spare room too, and all the others must stay.
	lists := []func(){func() { spoilDigests(one.Front.Chain) }, func() { spoilDigests(one.Front.Blocks) }, func() { spoilDigests(one.Front.Segs) }}
	for _, spoiling := range lists {
		was := copyOf(one)
		spoiling()
		changed := 0
		for _, same := range []bool{slices.Equal(one.Front.Chain, was.Front.Chain), slices.Equal(one.Front.Blocks, was.Front.Blocks), slices.Equal(one.Front.Segs, was.Front.Segs), slices.EqualFunc(one.Data, was.Data, bytes.Equal)} {
			if !same {
				changed++
			}
		}
		if changed != 1 {
			t.Error("lists share memory:", changed)
		}
	}
	for j := range one.Data {
		was := copyOf(one)
		spoil(one.Data[j])
		for i := range one.Data {
			if bytes.Equal(one.Data[i], was.Data[i]) == (i == j) {
				t.Error("blocks share memory:", j, i)
			}
		}
	}
	if !sameShare(two, want) || !sameFront(f, want.Front) {
		t.Error("answers share memory")
	}
}

func TestP14_5Sound(t *testing.T) {
	for _, four := range fours() {
		for _, number := range numbersOf(four[1]) {
			if !share.Sound(soundShare(t, four, number)) {
				t.Errorf("%v, %d: not sound", four, number)
			}
			if share.Sound(anyShare(t, four, number)) {
				t.Errorf("%v, %d: digests that lead nowhere are sound", four, number)
			}
		}
	}
}

// bind makes the Ueb's roots right again for what the front holds.
func bind(s *api.Share) {
	s.Front.Ueb.Segs = s.Front.Segs[0]
	s.Front.Ueb.Shares, _ = tree.Climb(s.Front.Ueb.N, s.Front.Number, tag.Root(s.Front.Blocks[0]), s.Front.Chain)
}

// lift makes all inner nodes right again, up to the root.
func lift(nodes []api.Digest) {
	for x := len(nodes) / 2; x >= 1; x-- {
		nodes[x-1] = tag.Node(nodes[2*x-1], nodes[2*x])
	}
}

// TestP14_5Unsound: each of the ways up is looked at by itself: all the others are right.
func TestP14_5Unsound(t *testing.T) {
	// Five shares, nine segments: both trees have leaves that stand for none.
	good := soundShare(t, [4]int{3, 5, 12, 100}, 2)
	last := len(good.Front.Blocks) - 1
	for what, change := range map[string]func(*api.Share){
		"the Ueb's Shares":     func(s *api.Share) { s.Front.Ueb.Shares[31] ^= 1 },
		"the Ueb's Segs":       func(s *api.Share) { s.Front.Ueb.Segs[0] ^= 1 },
		"both swapped":         func(s *api.Share) { s.Front.Ueb.Segs, s.Front.Ueb.Shares = s.Front.Ueb.Shares, s.Front.Ueb.Segs },
		"the chain's lowest":   func(s *api.Share) { s.Front.Chain[0][5] ^= 1 },
		"the chain's highest":  func(s *api.Share) { s.Front.Chain[2][5] ^= 1 },
		"the chain turned":     func(s *api.Share) { slices.Reverse(s.Front.Chain) },
		"another number":       func(s *api.Share) { s.Front.Number = 3 },
		"the root unrooted":    func(s *api.Share) { s.Front.Ueb.Shares, _ = tree.Climb(5, 2, s.Front.Blocks[0], s.Front.Chain) },
		"a block":              func(s *api.Share) { s.Data[4][0] ^= 1 },
		"the first block":      func(s *api.Share) { s.Data[0][3] ^= 0x80 },
		"the last block":       func(s *api.Share) { s.Data[8][1] ^= 0x80 },
		"two blocks swapped":   func(s *api.Share) { s.Data[0], s.Data[1] = s.Data[1], s.Data[0] },
		"a leaf of the blocks": func(s *api.Share) { s.Front.Blocks[15+4] = digest(1); lift(s.Front.Blocks); bind(s) },
		"a pad of the blocks":  func(s *api.Share) { s.Front.Blocks[last] = digest(1); lift(s.Front.Blocks); bind(s) },
		"the first pad":        func(s *api.Share) { s.Front.Blocks[15+9] = tag.Pad(10); lift(s.Front.Blocks); bind(s) },
		"a node of the blocks": func(s *api.Share) { s.Front.Blocks[1][0] ^= 1 },
		"the blocks' root":     func(s *api.Share) { s.Front.Blocks[0][0] ^= 1; bind(s) },
		"a node of the segs":   func(s *api.Share) { s.Front.Segs[5][0] ^= 1 },
		"the segs' root":       func(s *api.Share) { s.Front.Segs[0][0] ^= 1; bind(s) },
		"the root loose":       func(s *api.Share) { s.Front.Segs[0][0] ^= 1 },
		"a leaf of the segs":   func(s *api.Share) { s.Front.Segs[15] = digest(1) },
		"another leaf, lifted": func(s *api.Share) { s.Front.Segs[15] = digest(1); lift(s.Front.Segs) },
		"a pad of the segs":    func(s *api.Share) { s.Front.Segs[last] = digest(1); lift(s.Front.Segs); bind(s) },
		"the trees swapped":    func(s *api.Share) { s.Front.Segs, s.Front.Blocks = s.Front.Blocks, s.Front.Segs; bind(s) },
	} {
		s := copyOf(good)
		change(&s)
		if _, e := share.Pack(s); e != api.OK {
			t.Errorf("%s: Pack refuses: %d", what, e)
		}
		if share.Sound(s) {
			t.Errorf("%s: sound", what)
		}
	}
	// Of the segments only the nodes are at hand: any leaves do.
	s := copyOf(good)
	s.Front.Segs[15] = digest(1)
	lift(s.Front.Segs)
	bind(&s)
	if !share.Sound(s) {
		t.Error("other segments are not sound")
	}
}

func TestP14_6ThereAndBack(t *testing.T) {
	for _, four := range fours() {
		for number := range min(four[1], 4) {
			want := soundShare(t, four, number)
			b, e := share.Pack(want)
			s, at, g := share.Open(b)
			if e != api.OK || g != api.OK || at != 0 || !sameShare(s, want) {
				t.Fatalf("%v, %d: %d, %d, %d", four, number, e, at, g)
			}
			if again, e := share.Pack(s); !bytes.Equal(again, b) || e != api.OK {
				t.Errorf("%v, %d: %d", four, number, e)
			}
			u := s.Front.Ueb
			front, _ := share.FrontLen(shapeOf(t, u.K, u.N, u.Seg, u.Size))
			if whole, _ := share.Len(shapeOf(t, u.K, u.N, u.Seg, u.Size)); whole != len(b) {
				t.Errorf("%v: %d, %d", four, whole, len(b))
			}
			f, at, e := share.OpenFront(b[:front])
			if at != 0 || e != api.OK || !sameFront(f, want.Front) {
				t.Errorf("%v, %d: %+v, %d, %d", four, number, f, at, e)
			}
			if again, e := share.PackFront(f); !bytes.Equal(again, b[:front]) || e != api.OK {
				t.Errorf("%v, %d: %d", four, number, e)
			}
		}
	}
}

func TestP14_7Bounds(t *testing.T) {
	for _, four := range append(fours(), greatest()...) {
		s := shapeOf(t, four[0], four[1], four[2], four[3])
		at, _ := share.FrontLen(s)
		whole, _ := share.Len(s)
		if at >= 1<<17 || whole >= 1<<25 {
			t.Errorf("%v: %d, %d", four, at, whole)
		}
		for seg := range s.Segs {
			begin, n, e := share.Place(s, seg)
			if begin != at || n < 1 || e != api.OK {
				t.Errorf("%v, %d: %d, %d, %d", four, seg, begin, n, e)
			}
			at += n
		}
		if at != whole {
			t.Errorf("%v: %d, %d", four, at, whole)
		}
	}
}

// TestP14_7Great: the greatest share goes there and back.
func TestP14_7Great(t *testing.T) {
	want := soundShare(t, [4]int{1, 255, 32768, 1 << 24}, 254)
	b, e := share.Pack(want)
	s, at, g := share.Open(b)
	if e != api.OK || g != api.OK || at != 0 || len(s.Data) != 512 || !sameShare(s, want) || !share.Sound(s) {
		t.Errorf("%d, %d, %d", e, at, g)
	}
	s.Data[511][32767] ^= 1
	if share.Sound(s) {
		t.Error("sound with a block turned")
	}
}

// TestP14_8OneShare: no second sound share of a number is found beside a sound one, its Ueb being the same, by turning a bit anywhere.
func TestP14_8OneShare(t *testing.T) {
	for _, four := range [][4]int{{1, 1, 50, 60}, {3, 5, 12, 100}} {
		good := soundShare(t, four, 0)
		b, _ := share.Pack(good)
		taken := 0
		for at := range b {
			c := bytes.Clone(b)
			c[at] ^= 1 << (at % 8)
			s, _, e := share.Open(c)
			if e != api.OK {
				continue
			}
			taken++
			if share.Sound(s) {
				t.Errorf("%v: sound with a bit turned at %d", four, at)
			}
		}
		if front, _ := share.FrontLen(shapeOf(t, four[0], four[1], four[2], four[3])); taken < len(b)-front {
			t.Errorf("%v: only %d were taken", four, taken)
		}
	}
}

func TestExamples(t *testing.T) {
	s := api.Shape{K: 1, N: 1, Seg: 50, Size: 60, Segs: 2, Tail: 10, Block: 50, LastBlock: 10}
	good := soundShare(t, [4]int{1, 1, 50, 60}, 0)
	u, _ := ueb.Length(good.Front.Ueb)
	front, _ := share.FrontLen(s)
	whole, _ := share.Len(s)
	if front != 228+u || whole != 288+u {
		t.Error(front, whole, u)
	}
	for seg, want := range [][3]int{{228 + u, 50, 0}, {278 + u, 10, 0}, {0, 0, int(api.ErrArg)}} {
		if at, n, e := share.Place(s, seg); [3]int{at, n, int(e)} != want {
			t.Error(seg, at, n, e)
		}
	}
	b, _ := share.Pack(good)
	for i, want := range []int{0, 36, 36 + u, 36 + u, 132 + u, 228 + u, 288 + u} {
		if got := binary.BigEndian.Uint32(b[8+4*i:]); int(got) != want {
			t.Error(8+4*i, got, want)
		}
	}
	if string(b[:8]) != "\x52\x4f\x4f\x4d\x00\x00\x00\x01" {
		t.Errorf("%x", b[:8])
	}
	for _, x := range []struct {
		b    []byte
		want int
	}{{b[:35], 35}, {append(bytes.Clone(b), 0), 288 + u}, {b[:front], 228 + u}} {
		if _, at, e := share.Open(x.b); at != x.want || e != api.ErrShare {
			t.Error(len(x.b), at, e)
		}
	}
	if _, at, e := share.OpenFront(b); at != 228+u || e != api.ErrShare {
		t.Error(at, e)
	}
	b[len(b)-1] ^= 1
	if turned, _, e := share.Open(b); e != api.OK || share.Sound(turned) || !share.Sound(good) {
		t.Error(e)
	}
	for n, chain := range map[int]int{3: 2, 255: 8} {
		f := anyFront(t, [4]int{1, n, 50, 60}, 0)
		if _, e := share.PackFront(f); e != api.OK || len(f.Chain) != chain {
			t.Error(n, len(f.Chain), e)
		}
	}
}
