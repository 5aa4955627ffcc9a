package ctr_test

import (
	"bytes"
	standard "crypto/aes"
	"crypto/cipher"
	"encoding/binary"
	"encoding/hex"
	"iter"
	"math"
	"slices"
	"testing"

	"strongroom/api"
	"strongroom/ctr"
)

// The key of the document's examples, and the first bytes of its keystream.
const (
	plainKey    = "2b7e151628aed2a6abf7158809cf4f3c"
	plainStream = "7df76b0c1ab899b33e42f047b91b546f"
)

func unhex(text string) []byte {
	b, err := hex.DecodeString(text)
	if err != nil {
		panic(text)
	}
	return b
}

func keys() []api.Key {
	return []api.Key{
		api.Key(unhex(plainKey)),
		{},
		api.Key(bytes.Repeat([]byte{255}, 16)),
		api.Key(counted(16)),
	}
}

// counted gives n bytes that do not come again at once.
func counted(n int) []byte {
	b := make([]byte, n)
	for i := range b {
		b[i] = byte(i*7 + i/251 + 1)
	}
	return b
}

// roomy gives a list with spare room, and a function that tells whether the list or its room was changed.
func roomy(list []byte) ([]byte, func() bool) {
	whole := append(bytes.Clone(list), counted(40)...)
	before := bytes.Clone(whole)
	return whole[:len(list)], func() bool { return !bytes.Equal(whole, before) }
}

// spoil overwrites a list and its spare room.
func spoil(b []byte) {
	b = b[:cap(b)]
	for i := range b {
		b[i] ^= 238
	}
}

// theirs gives b xored from a place on, by the library's counter mode, begun at the block of that place.
func theirs(k api.Key, at int, b []byte) []byte {
	c, err := standard.NewCipher(k[:])
	if err != nil {
		panic(err)
	}
	var first [16]byte
	binary.BigEndian.PutUint64(first[8:], uint64(at/16))
	mode := cipher.NewCTR(c, first[:])
	skipped := make([]byte, at%16)
	mode.XORKeyStream(skipped, skipped)
	out := make([]byte, len(b))
	mode.XORKeyStream(out, b)
	return out
}

func stream(t *testing.T, k api.Key, at, n int) []byte {
	t.Helper()
	out, e := ctr.Stream(k, at, n)
	if e != api.OK {
		t.Fatalf("Stream(%d, %d): %d", at, n, e)
	}
	return out
}

func apply(t *testing.T, k api.Key, at int, b []byte) []byte {
	t.Helper()
	out, e := ctr.Apply(k, at, b)
	if e != api.OK {
		t.Fatalf("Apply at %d, %d bytes: %d", at, len(b), e)
	}
	return out
}

func wantBytes(t *testing.T, what string, got, want []byte) {
	t.Helper()
	if !bytes.Equal(got, want) {
		t.Errorf("%s: %x instead of %x", what, got, want)
	}
}

// places are those about which seams lie: of blocks, of a counter's bytes, of what is spoken of.
func places() []int {
	var out []int
	for at := range 50 {
		out = append(out, at)
	}
	for _, seam := range []int{256 * 16, 65536 * 16, 1 << 31, 1 << 32, 1 << 36, 1 << 61} {
		out = append(out, seam-17, seam-16, seam-15, seam-1, seam, seam+1)
	}
	return out
}

func TestP4_1Counter(t *testing.T) {
	for _, c := range []struct {
		n    uint64
		want string
	}{
		{0, "00000000000000000000000000000000"},
		{1, "00000000000000000000000000000001"},
		{255, "000000000000000000000000000000ff"},
		{256, "00000000000000000000000000000100"},
		{258, "00000000000000000000000000000102"},
		{0x0123456789abcdef, "00000000000000000123456789abcdef"},
		{1 << 63, "00000000000000008000000000000000"},
		{math.MaxUint64, "0000000000000000ffffffffffffffff"},
	} {
		b := ctr.Counter(c.n)
		wantBytes(t, "Counter", b[:], unhex(c.want))
	}
}

func TestP4_1Blocks(t *testing.T) {
	for _, k := range keys() {
		c, err := standard.NewCipher(k[:])
		if err != nil {
			t.Fatal(err)
		}
		for _, from := range []uint64{0, 1, 2, 254, 255, 256, 1 << 32, 1<<58 - 1, 1 << 63, math.MaxUint64 - 20} {
			next := from
			for n, block := range ctr.Blocks(k, from) {
				if n != next {
					t.Fatalf("from %d: number %d instead of %d", from, n, next)
				}
				counter := ctr.Counter(n)
				want := make([]byte, 16)
				c.Encrypt(want, counter[:])
				wantBytes(t, "a block", block[:], want)
				next++
				if next-from == 20 {
					break
				}
			}
			if next-from != 20 {
				t.Errorf("from %d: %d blocks", from, next-from)
			}
		}
	}
}

func TestP4_1BlocksEnd(t *testing.T) {
	for left := range uint64(4) {
		var numbers []uint64
		for n := range ctr.Blocks(keys()[0], math.MaxUint64-left) {
			numbers = append(numbers, n)
			if len(numbers) > 10 {
				t.Fatal("behind the last number there are more")
			}
		}
		want := []uint64{math.MaxUint64 - 3, math.MaxUint64 - 2, math.MaxUint64 - 1, math.MaxUint64}[3-left:]
		if !slices.Equal(numbers, want) {
			t.Errorf("the last numbers: %d instead of %d", numbers, want)
		}
	}
}

// firsts goes through the first blocks that an iterator has, and leaves it.
func firsts(seq iter.Seq2[uint64, api.Block], count int) []api.Block {
	var out []api.Block
	if count == 0 {
		return out
	}
	for _, block := range seq {
		out = append(out, block)
		if len(out) == count {
			break
		}
	}
	return out
}

func TestP4_1BlocksLeftAndAgain(t *testing.T) {
	k := keys()[0]
	seq := ctr.Blocks(k, 7)
	k[0] ^= 1
	want := firsts(ctr.Blocks(keys()[0], 7), 9)
	for _, count := range []int{1, 9, 2, 0, 5, 9} {
		if got := firsts(seq, count); !slices.Equal(got, want[:count]) {
			t.Errorf("%d blocks: %x", count, got)
		}
	}
	end := ctr.Blocks(keys()[0], math.MaxUint64-1)
	whole := firsts(end, 3)
	if again := firsts(end, 3); len(whole) != 2 || !slices.Equal(again, whole) {
		t.Errorf("to the end and again: %x, %x", whole, again)
	}
}

func TestP4_1BlocksWithinOneAnother(t *testing.T) {
	seq := ctr.Blocks(keys()[0], 3)
	want := firsts(seq, 4)
	var outer []api.Block
	for n, block := range seq {
		outer = append(outer, block)
		if got := firsts(seq, 4); !slices.Equal(got, want) {
			t.Errorf("within number %d: %x", n, got)
		}
		if len(outer) == 4 {
			break
		}
	}
	if !slices.Equal(outer, want) {
		t.Errorf("around: %x instead of %x", outer, want)
	}
}

func TestP4_2Examples(t *testing.T) {
	k := keys()[0]
	wantBytes(t, "Stream(0, 16)", stream(t, k, 0, 16), unhex(plainStream))
	wantBytes(t, "Stream(5, 3)", stream(t, k, 5, 3), unhex("b899b3"))
}

func TestP4_2Stream(t *testing.T) {
	for _, k := range keys() {
		for _, at := range places() {
			for _, n := range []int{0, 1, 2, 14, 15, 16, 17, 31, 32, 33, 50} {
				if got, want := stream(t, k, at, n), theirs(k, at, make([]byte, n)); !bytes.Equal(got, want) {
					t.Errorf("key %x: Stream(%d, %d): %x instead of %x", k, at, n, got, want)
				}
			}
		}
	}
	wantBytes(t, "many bytes", stream(t, keys()[3], 3, 100000), theirs(keys()[3], 3, make([]byte, 100000)))
}

// wrongPlaces are places with numbers of bytes that go beyond what is spoken of.
func wrongPlaces() [][2]int {
	return [][2]int{
		{-1, 0}, {-1, 1}, {-1, 2}, {-16, 32}, {math.MinInt, 0}, {math.MinInt, 5},
		{api.MaxPlace, 1}, {api.MaxPlace - 1, 2}, {api.MaxPlace - 16, 17}, {api.MaxPlace - 16, 32},
		{api.MaxPlace + 1, 0}, {api.MaxPlace + 1, 1}, {math.MaxInt, 0}, {math.MaxInt, 1}, {math.MaxInt - 4, 9},
	}
}

func TestP4_2Refused(t *testing.T) {
	k := keys()[0]
	refused := func(at, n int, want api.Errno) {
		t.Helper()
		if got, e := ctr.Stream(k, at, n); len(got) != 0 || e != want {
			t.Errorf("Stream(%d, %d): %x, %d instead of %d", at, n, got, e, want)
		}
	}
	for _, n := range []int{-1, -16, math.MinInt} {
		for _, at := range []int{0, 5, -1, math.MinInt, api.MaxPlace, api.MaxPlace + 1, math.MaxInt} {
			refused(at, n, api.ErrArg)
		}
	}
	for _, c := range wrongPlaces() {
		refused(c[0], c[1], api.ErrPlace)
	}
	for _, c := range [][2]int{{0, api.MaxPlace + 1}, {1, api.MaxPlace}, {0, math.MaxInt}, {1, math.MaxInt}, {math.MaxInt, math.MaxInt}, {-1, math.MaxInt}} {
		refused(c[0], c[1], api.ErrPlace)
	}
}

func TestP4_2LastPlaces(t *testing.T) {
	for n := range 40 {
		at := api.MaxPlace - n
		wantBytes(t, "up to the last place", stream(t, keys()[0], at, n), theirs(keys()[0], at, make([]byte, n)))
	}
}

func TestP4_2OwnMemory(t *testing.T) {
	k := keys()[0]
	first := stream(t, k, 3, 30)
	spoil(first)
	second := stream(t, k, 3, 30)
	held := bytes.Clone(second)
	spoil(first)
	wantBytes(t, "beside a spoilt answer", second, held)
	wantBytes(t, "behind a spoilt answer", second, theirs(k, 3, make([]byte, 30)))
}

func TestP4_3Apply(t *testing.T) {
	for _, k := range keys() {
		for _, at := range places() {
			for _, n := range []int{0, 1, 15, 16, 17, 50} {
				b, changed := roomy(counted(n))
				if got, want := apply(t, k, at, b), theirs(k, at, b); !bytes.Equal(got, want) {
					t.Errorf("key %x: Apply at %d, %d bytes: %x instead of %x", k, at, n, got, want)
				}
				if changed() {
					t.Errorf("Apply at %d, %d bytes: the argument was changed", at, n)
				}
			}
		}
	}
	b := counted(100000)
	wantBytes(t, "many bytes", apply(t, keys()[3], 3, b), theirs(keys()[3], 3, b))
}

func TestP4_3Nothing(t *testing.T) {
	for _, at := range []int{0, 5, 16, api.MaxPlace - 1, api.MaxPlace} {
		for _, b := range [][]byte{nil, {}, counted(3)[:0]} {
			if got := apply(t, keys()[0], at, b); len(got) != 0 {
				t.Errorf("Apply of no bytes at %d: %x", at, got)
			}
		}
	}
}

func TestP4_3Refused(t *testing.T) {
	for _, c := range wrongPlaces() {
		b, changed := roomy(counted(c[1]))
		if got, e := ctr.Apply(keys()[0], c[0], b); len(got) != 0 || e != api.ErrPlace || changed() {
			t.Errorf("Apply at %d, %d bytes: %x, %d", c[0], c[1], got, e)
		}
	}
	if got, e := ctr.Apply(keys()[0], -1, nil); len(got) != 0 || e != api.ErrPlace {
		t.Errorf("Apply of nil at -1: %x, %d", got, e)
	}
}

func TestP4_3LastPlaces(t *testing.T) {
	for n := range 40 {
		at, b := api.MaxPlace-n, counted(n)
		wantBytes(t, "up to the last place", apply(t, keys()[0], at, b), theirs(keys()[0], at, b))
	}
}

func TestP4_3OwnMemory(t *testing.T) {
	b, changed := roomy(counted(30))
	first := apply(t, keys()[0], 3, b)
	second := apply(t, keys()[0], 3, b)
	spoil(first)
	wantBytes(t, "beside a spoilt answer", second, theirs(keys()[0], 3, counted(30)))
	if changed() {
		t.Error("the argument has a part in the answer")
	}
	spoil(b)
	wantBytes(t, "beside a spoilt argument", second, theirs(keys()[0], 3, counted(30)))
}

func TestP4_6(t *testing.T) {
	for _, k := range keys() {
		for _, at := range append(places(), api.MaxPlace-70) {
			b := counted(70)
			wantBytes(t, "there and back", apply(t, k, at, apply(t, k, at, b)), b)
			wantBytes(t, "of noughts", apply(t, k, at, make([]byte, 70)), stream(t, k, at, 70))
		}
	}
}

func TestP4_7(t *testing.T) {
	k, b := keys()[0], counted(67)
	for _, at := range []int{0, 1, 5, 15, 16, 4090, api.MaxPlace - 67} {
		whole := apply(t, k, at, b)
		for first := range len(b) + 1 {
			for _, second := range []int{first, min(first+1, len(b)), (first + len(b)) / 2, len(b)} {
				got := slices.Concat(
					apply(t, k, at, b[:first]),
					apply(t, k, at+first, b[first:second]),
					apply(t, k, at+second, b[second:]),
				)
				if !bytes.Equal(got, whole) {
					t.Errorf("at %d, cut at %d and %d: %x instead of %x", at, first, second, got, whole)
				}
			}
		}
	}
}

func TestP4_8(t *testing.T) {
	k, b := keys()[0], counted(35)
	for _, at := range []int{0, 1, 15, 16, 4090, api.MaxPlace - 35} {
		whole := apply(t, k, at, b)
		for i := range b {
			for _, turn := range []byte{1, 128, 90, 255} {
				turned, want := bytes.Clone(b), bytes.Clone(whole)
				turned[i] ^= turn
				want[i] ^= turn
				wantBytes(t, "one byte turned", apply(t, k, at, turned), want)
			}
		}
	}
}
