package octet_test

import (
	"bytes"
	"math"
	"slices"
	"testing"

	"strongroom/api"
	"strongroom/octet"
)

// The constraint takes types that are made of numbers too.
type (
	tiny  uint8
	short uint16
	word  uint32
	long  uint64
)

// roomy gives a list with spare room, and a function that tells whether the list or its room was changed.
func roomy(list ...byte) ([]byte, func() bool) {
	whole := append(bytes.Clone(list), 201, 202, 203, 204, 205, 206, 207, 208)
	before := bytes.Clone(whole)
	return whole[:len(list)], func() bool { return !bytes.Equal(whole, before) }
}

// spoil overwrites a list and its spare room.
func spoil(b []byte) {
	b = b[:cap(b)]
	for i := range b {
		b[i] = 238
	}
}

// counted gives n bytes that do not come again at once.
func counted(n int) []byte {
	b := make([]byte, n)
	for i := range b {
		b[i] = byte(i*7 + i/251)
	}
	return b
}

func sameLists(a, b [][]byte) bool { return slices.EqualFunc(a, b, bytes.Equal) }

func wantBytes(t *testing.T, what string, got []byte, want ...byte) {
	t.Helper()
	if !bytes.Equal(got, want) {
		t.Errorf("%s: %v instead of %v", what, got, want)
	}
}

func TestP1_1Big(t *testing.T) {
	wantBytes(t, "uint8 0", octet.Big(uint8(0)), 0)
	wantBytes(t, "uint8 255", octet.Big(uint8(255)), 255)
	wantBytes(t, "uint16 258", octet.Big(uint16(258)), 1, 2)
	wantBytes(t, "uint16 the greatest", octet.Big(uint16(math.MaxUint16)), 255, 255)
	wantBytes(t, "uint32", octet.Big(uint32(0x01020304)), 1, 2, 3, 4)
	wantBytes(t, "uint32 0", octet.Big(uint32(0)), 0, 0, 0, 0)
	wantBytes(t, "uint64 1", octet.Big(uint64(1)), 0, 0, 0, 0, 0, 0, 0, 1)
	wantBytes(t, "uint64", octet.Big(uint64(0xfedcba9876543210)), 0xfe, 0xdc, 0xba, 0x98, 0x76, 0x54, 0x32, 0x10)
	wantBytes(t, "tiny", octet.Big(tiny(9)), 9)
	wantBytes(t, "short", octet.Big(short(0x0908)), 9, 8)
	wantBytes(t, "word", octet.Big(word(1<<31)), 128, 0, 0, 0)
	wantBytes(t, "long", octet.Big(long(1<<63)), 128, 0, 0, 0, 0, 0, 0, 0)
}

func checkSmall[T octet.Whole](t *testing.T, width int, want T) {
	t.Helper()
	for n := range 20 {
		b, changed := roomy(counted(n)...)
		x, e := octet.Small[T](b)
		switch {
		case n < width && (x != 0 || e != api.ErrEnd):
			t.Errorf("%T, %d bytes: %d, %d instead of ErrEnd", want, n, x, e)
		case n > width && (x != 0 || e != api.ErrRest):
			t.Errorf("%T, %d bytes: %d, %d instead of ErrRest", want, n, x, e)
		case n == width && (x != want || e != api.OK):
			t.Errorf("%T, %d bytes: %d, %d instead of %d", want, n, x, e, want)
		}
		if changed() {
			t.Errorf("%T, %d bytes: the argument was changed", want, n)
		}
	}
	if x, e := octet.Small[T](nil); x != 0 || e != api.ErrEnd {
		t.Errorf("%T, nil: %d, %d", want, x, e)
	}
}

func TestP1_1Small(t *testing.T) {
	checkSmall[uint8](t, 1, 0)
	checkSmall[uint16](t, 2, 7)
	checkSmall[uint32](t, 4, 0x00070e15)
	checkSmall[uint64](t, 8, 0x00070e151c232a31)
	checkSmall[tiny](t, 1, 0)
	checkSmall[short](t, 2, 7)
	checkSmall[word](t, 4, 0x00070e15)
	checkSmall[long](t, 8, 0x00070e151c232a31)
	if x, e := octet.Small[uint32]([]byte{0, 0, 1, 0}); x != 256 || e != api.OK {
		t.Errorf("0 0 1 0: %d, %d", x, e)
	}
	if x, e := octet.Small[uint64](bytes.Repeat([]byte{255}, 8)); x != math.MaxUint64 || e != api.OK {
		t.Errorf("the greatest: %d, %d", x, e)
	}
}

func TestP1_2Join(t *testing.T) {
	wantBytes(t, "of nothing", octet.Join())
	wantBytes(t, "of empty lists", octet.Join(nil, []byte{}, nil))
	wantBytes(t, "of one", octet.Join([]byte{1, 2}), 1, 2)
	wantBytes(t, "of four", octet.Join([]byte{1, 2}, nil, []byte{3}, []byte{1, 2}), 1, 2, 3, 1, 2)
}

func TestP1_2Framed(t *testing.T) {
	wantBytes(t, "of nothing", octet.Framed())
	wantBytes(t, "of an empty list", octet.Framed(nil), 0, 0, 0, 0, 0, 0, 0, 0)
	wantBytes(t, "a and nothing", octet.Framed([]byte("a"), []byte{}), 0, 0, 0, 0, 0, 0, 0, 1, 97, 0, 0, 0, 0, 0, 0, 0, 0)
	wantBytes(t, "258 bytes", octet.Framed(counted(258))[:9], 0, 0, 0, 0, 0, 0, 1, 2, 0)
}

func TestP1_3Unframed(t *testing.T) {
	frame := func(length []byte, list ...byte) []byte { return append(bytes.Clone(length), list...) }
	one := []byte{0, 0, 0, 0, 0, 0, 0, 1}
	none := make([]byte, 8)
	for _, c := range []struct {
		b    []byte
		want [][]byte
	}{
		{nil, nil},
		{[]byte{}, nil},
		{none, [][]byte{{}}},
		{frame(one, 97), [][]byte{{97}}},
		{frame(frame(one, 97), none...), [][]byte{{97}, {}}},
		{frame(none, frame(one, 5)...), [][]byte{{}, {5}}},
		{frame([]byte{0, 0, 0, 0, 0, 0, 1, 2}, counted(258)...), [][]byte{counted(258)}},
	} {
		if got, e := octet.Unframed(c.b); e != api.OK || !sameLists(got, c.want) {
			t.Errorf("Unframed(%v): %v, %d instead of %v", c.b, got, e, c.want)
		}
	}
}

func TestP1_3NoFrames(t *testing.T) {
	good := octet.Framed([]byte("ab"), []byte("c"))
	for n := range good {
		if n == 0 || n == 10 { // no frames, and the first frame alone
			continue
		}
		if got, e := octet.Unframed(good[:n]); e != api.ErrFrame || len(got) != 0 {
			t.Errorf("%d bytes of %d: %v, %d", n, len(good), got, e)
		}
	}
	for _, b := range [][]byte{
		make([]byte, 7),
		make([]byte, 9),
		{0, 0, 0, 0, 0, 0, 0, 2, 97},
		{0, 0, 0, 0, 0, 0, 0, 1, 97, 98},
		{128, 0, 0, 0, 0, 0, 0, 0},
		{128, 0, 0, 0, 0, 0, 0, 1, 97},
		{127, 255, 255, 255, 255, 255, 255, 255, 97},
		{255, 255, 255, 255, 255, 255, 255, 255, 1},
		{0, 0, 0, 1, 0, 0, 0, 0},
		{1, 0, 0, 0, 0, 0, 0, 0},
		append(octet.Framed([]byte("ab")), 0),
	} {
		if got, e := octet.Unframed(b); e != api.ErrFrame || len(got) != 0 {
			t.Errorf("Unframed(%v): %v, %d", b, got, e)
		}
	}
}

func TestP1_4Xor(t *testing.T) {
	for _, c := range []struct {
		a, b, want []byte
		e          api.Errno
	}{
		{[]byte{1, 2, 3}, []byte{3, 2, 1}, []byte{2, 0, 2}, api.OK},
		{[]byte{255, 0}, []byte{15, 240}, []byte{240, 240}, api.OK},
		{nil, []byte{}, nil, api.OK},
		{[]byte{1}, []byte{1, 2}, nil, api.ErrUnlike},
		{[]byte{1, 2}, []byte{1}, nil, api.ErrUnlike},
		{nil, []byte{0}, nil, api.ErrUnlike},
		{[]byte{0}, nil, nil, api.ErrUnlike},
	} {
		if got, e := octet.Xor(c.a, c.b); e != c.e || !bytes.Equal(got, c.want) {
			t.Errorf("Xor(%v, %v): %v, %d", c.a, c.b, got, e)
		}
	}
	if got, e := octet.Xor(counted(10), counted(10)); e != api.OK || !bytes.Equal(got, make([]byte, 10)) {
		t.Errorf("a list with itself: %v, %d", got, e)
	}
}

func TestP1_4XorOfLongLists(t *testing.T) {
	for _, n := range []int{4095, 4096, 4097, 8192, 100001} {
		a, b := counted(n), slices.Repeat([]byte{1, 2, 4, 8, 16}, n)[:n]
		got, e := octet.Xor(a, b)
		if e != api.OK || len(got) != n {
			t.Fatalf("%d bytes: %d of them, %d", n, len(got), e)
		}
		for i := range got {
			if got[i] != a[i]^b[i] {
				t.Fatalf("%d bytes: place %d", n, i)
			}
		}
	}
}

func TestP1_5Chunks(t *testing.T) {
	five := []byte{1, 2, 3, 4, 5}
	for _, c := range []struct {
		b      []byte
		size   int
		places []int
		pieces [][]byte
	}{
		{five, 2, []int{0, 2, 4}, [][]byte{{1, 2}, {3, 4}, {5}}},
		{five, 1, []int{0, 1, 2, 3, 4}, [][]byte{{1}, {2}, {3}, {4}, {5}}},
		{five, 4, []int{0, 4}, [][]byte{{1, 2, 3, 4}, {5}}},
		{five, 5, []int{0}, [][]byte{five}},
		{five, 6, []int{0}, [][]byte{five}},
		{five[:4], 2, []int{0, 2}, [][]byte{{1, 2}, {3, 4}}},
		{five, math.MaxInt, []int{0}, [][]byte{five}},
		{five, math.MaxInt - 1, []int{0}, [][]byte{five}},
		{five, 0, nil, nil},
		{five, -1, nil, nil},
		{five, math.MinInt, nil, nil},
		{nil, 3, nil, nil},
		{[]byte{}, 1, nil, nil},
		{nil, 0, nil, nil},
	} {
		chunks := octet.Chunks(c.b, c.size)
		if chunks == nil {
			t.Fatalf("Chunks(%v, %d) is nil", c.b, c.size)
		}
		for round := range 2 {
			var places []int
			var pieces [][]byte
			for at, piece := range chunks {
				places, pieces = append(places, at), append(pieces, piece)
			}
			if !slices.Equal(places, c.places) || !sameLists(pieces, c.pieces) {
				t.Errorf("Chunks(%v, %d), round %d: %v %v", c.b, c.size, round, places, pieces)
			}
		}
	}
}

func TestP1_5ChunksLeftEarly(t *testing.T) {
	chunks := octet.Chunks([]byte{1, 2, 3, 4, 5}, 2)
	for range 2 {
		for at, piece := range chunks {
			if at == 2 {
				wantBytes(t, "the second piece", piece, 3, 4)
				break
			}
		}
	}
	calls := 0
	chunks(func(int, []byte) bool { calls++; return false })
	if calls != 1 {
		t.Errorf("%d calls of one that wants no more", calls)
	}
}

func TestP1_5ChunksWithinChunks(t *testing.T) {
	chunks := octet.Chunks([]byte{1, 2, 3}, 2)
	var places []int
	for outer := range chunks {
		for inner := range chunks {
			places = append(places, outer*10+inner)
		}
	}
	if !slices.Equal(places, []int{0, 2, 20, 22}) {
		t.Errorf("one within the other: %v", places)
	}
}

func TestP1_5ChunksHoldWhatWas(t *testing.T) {
	b, changed := roomy(1, 2, 3, 4, 5)
	chunks := octet.Chunks(b, 2)
	var first [][]byte
	for _, piece := range chunks {
		first = append(first, piece)
	}
	for _, piece := range first {
		spoil(piece)
	}
	if changed() {
		t.Error("a piece has a part in the argument")
	}
	b[0], b[4] = 91, 95
	var second [][]byte
	for at, piece := range chunks {
		b[2] = byte(100 + at)
		second = append(second, bytes.Clone(piece))
		spoil(piece)
	}
	if want := [][]byte{{1, 2}, {3, 4}, {5}}; !sameLists(second, want) {
		t.Errorf("behind a change of the list: %v", second)
	}
}

func TestP1_6Less(t *testing.T) {
	rising := []string{"", "\x00", "\x00\x00", "\x00a", "a", "a\x00", "aa", "aab", "ab", "b", "\x7f", "\x80", "\xff", "\xff\xff"}
	for i, a := range rising {
		for j, b := range rising {
			if got := octet.Less([]byte(a), []byte(b)); got != (i < j) {
				t.Errorf("Less(%q, %q): %v", a, b, got)
			}
		}
	}
	if octet.Less(nil, nil) || octet.Less(nil, []byte{}) || octet.Less([]byte{}, nil) || !octet.Less(nil, []byte{0}) {
		t.Error("nil is not an empty list")
	}
}

func checkThereAndBack[T octet.Whole](t *testing.T, rising ...T) {
	t.Helper()
	for i, x := range rising {
		b := octet.Big(x)
		if y, e := octet.Small[T](b); y != x || e != api.OK {
			t.Errorf("%T: Small(Big(%d)): %d, %d", x, x, y, e)
		}
		for _, y := range rising[i:] {
			if octet.Less(octet.Big(y), b) {
				t.Errorf("%T: the bytes of %d stand ahead of those of %d", x, y, x)
			}
		}
	}
}

func checkBackAndThere[T octet.Whole](t *testing.T, width int) {
	t.Helper()
	for at := range width {
		for c := range 256 {
			b := counted(width)
			b[at] = byte(c)
			x, e := octet.Small[T](b)
			if e != api.OK || !bytes.Equal(octet.Big(x), b) {
				t.Errorf("%T: Big(Small(%v)): %v, %d", x, b, octet.Big(x), e)
			}
		}
	}
}

func TestP1_10(t *testing.T) {
	var all []uint8
	for x := range 256 {
		all = append(all, uint8(x))
	}
	checkThereAndBack(t, all...)
	checkThereAndBack[uint16](t, 0, 1, 255, 256, 257, 0x7fff, 0x8000, 0xff00, 0xffff)
	checkThereAndBack[uint32](t, 0, 1, 255, 256, 0xffff, 0x10000, 0xffffff, 0x1000000, 1<<31, math.MaxUint32)
	checkThereAndBack[uint64](t, 0, 1, 255, 256, 1<<16, 1<<24, 1<<32-1, 1<<32, 1<<40, 1<<48, 1<<56, 1<<63-1, 1<<63, math.MaxUint64)
	checkThereAndBack[tiny](t, 0, 1, 128, 255)
	checkThereAndBack[short](t, 0, 1, 258, 0xffff)
	checkThereAndBack[word](t, 0, 1, 1<<31, math.MaxUint32)
	checkThereAndBack[long](t, 0, 1, 1<<63, math.MaxUint64)
	checkBackAndThere[uint8](t, 1)
	checkBackAndThere[uint16](t, 2)
	checkBackAndThere[uint32](t, 4)
	checkBackAndThere[uint64](t, 8)
	checkBackAndThere[short](t, 2)
}

func TestP1_11(t *testing.T) {
	frames := map[string]int{}
	rows := [][][]byte{
		{},
		{{}},
		{{}, {}},
		{{0}},
		{{}, {0}},
		{{0}, {}},
		{[]byte("ab")},
		{[]byte("a"), []byte("b")},
		{[]byte("a"), {}, []byte("b")},
		{make([]byte, 8)},
		{make([]byte, 8), make([]byte, 16)},
		{counted(300), counted(1), {}},
		{octet.Framed([]byte("a"))},
	}
	for i, row := range rows {
		b := octet.Framed(row...)
		if got, e := octet.Unframed(b); e != api.OK || !sameLists(got, row) {
			t.Errorf("row %d, there and back: %v, %d", i, got, e)
		}
		if j := frames[string(b)]; j > 0 {
			t.Errorf("rows %d and %d have the same frames", j-1, i)
		}
		frames[string(b)] = i + 1
	}
}

func TestP1_11BackAndThere(t *testing.T) {
	taken := 0
	for length := range 12 {
		for size := range 40 {
			b := counted(size)
			if size >= 8 {
				copy(b, octet.Big(uint64(length)))
			}
			if size >= 16+length {
				copy(b[8+length:], octet.Big(uint64(size-16-length)))
			}
			got, e := octet.Unframed(b)
			if e == api.OK {
				taken++
			}
			if e == api.OK && !bytes.Equal(octet.Framed(got...), b) {
				t.Errorf("Framed(Unframed(%v)): %v", b, octet.Framed(got...))
			}
		}
	}
	if taken < 200 {
		t.Errorf("only %d were taken", taken)
	}
}

func TestP1_12(t *testing.T) {
	for _, n := range []int{0, 1, 2, 7, 64, 4096, 5000} {
		a, b := counted(n), slices.Repeat([]byte{3, 141, 59, 26}, n)[:n]
		once, e := octet.Xor(a, b)
		twice, f := octet.Xor(once, b)
		if e != api.OK || f != api.OK || !bytes.Equal(twice, a) {
			t.Errorf("%d bytes: Xor(Xor(a, b), b) is not a", n)
		}
		for _, size := range []int{1, 2, 3, 64, n + 1, math.MaxInt} {
			var pieces [][]byte
			for at, piece := range octet.Chunks(a, size) {
				if at != len(octet.Join(pieces...)) || len(piece) == 0 || len(piece) > size {
					t.Fatalf("%d bytes by %d: a piece of %d at %d", n, size, len(piece), at)
				}
				if len(pieces) > 0 && len(pieces[len(pieces)-1]) != size {
					t.Fatalf("%d bytes by %d: a short piece ahead of the last one", n, size)
				}
				pieces = append(pieces, piece)
			}
			if !bytes.Equal(octet.Join(pieces...), a) {
				t.Errorf("%d bytes by %d: the pieces are not the list", n, size)
			}
		}
	}
}

// R3: arguments and their spare room stay as they are, and no answer has a part in them.
func TestArgumentsStay(t *testing.T) {
	a, aChanged := roomy(1, 2, 3)
	b, bChanged := roomy(4, 5, 6)
	parts := [][]byte{a, b, {9}, {9}}
	spoil(octet.Join(parts[:2]...))
	spoil(octet.Join(parts[:1]...))
	spoil(octet.Framed(parts[:2]...))
	spoil(octet.Framed(parts[:1]...))
	x, _ := octet.Xor(a, b)
	spoil(x)
	octet.Less(a, b)
	if aChanged() || bChanged() {
		t.Error("an argument was changed")
	}
	if !sameLists(parts, [][]byte{{1, 2, 3}, {4, 5, 6}, {9}, {9}}) {
		t.Error("the list of the parts was changed")
	}
}

// R3: no list of an answer has a part in another one of it, or in the argument.
func TestListsOfUnframedStandAlone(t *testing.T) {
	want := [][]byte{{1, 2}, {}, {3}, {4, 5, 6}}
	b, changed := roomy(octet.Framed(want...)...)
	for i := range want {
		got, e := octet.Unframed(b)
		if e != api.OK {
			t.Fatal(e)
		}
		spoil(got[i])
		for j := range want {
			if j != i && !bytes.Equal(got[j], want[j]) {
				t.Errorf("list %d has a part in list %d", j, i)
			}
		}
		if changed() {
			t.Fatalf("list %d has a part in the argument", i)
		}
	}
	got, _ := octet.Unframed(b)
	spoil(b)
	if !sameLists(got, want) {
		t.Error("the argument has a part in the answer")
	}
}
