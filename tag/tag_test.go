package tag_test

import (
	"bytes"
	"crypto/sha256"
	"encoding/binary"
	"fmt"
	"slices"
	"testing"

	"strongroom/api"
	"strongroom/tag"
)

// kind is a row of the document's table of tags: the least and the greatest number of bytes of each part, the greatest below 0 for any number.
type kind struct {
	tag         api.Tag
	word        string
	least, most []int
}

func kinds() []kind {
	return []kind{
		{api.TagKey, "strongroom key", []int{0, 6, 0}, []int{64, 6, 1 << 24}},
		{api.TagIndex, "strongroom index", []int{16}, []int{16}},
		{api.TagBlock, "strongroom block", []int{0}, []int{-1}},
		{api.TagSegment, "strongroom segment", []int{0}, []int{-1}},
		{api.TagRoot, "strongroom root", []int{32}, []int{32}},
		{api.TagNode, "strongroom node", []int{32, 32}, []int{32, 32}},
		{api.TagPad, "strongroom pad", []int{4}, []int{4}},
		{api.TagUeb, "strongroom ueb", []int{0}, []int{-1}},
		{api.TagRing, "strongroom ring", []int{16, 4}, []int{16, 4}},
	}
}

// sizes gives lists of sizes that the parts may have, the edges among them.
func (k kind) sizes() [][]int {
	if k.tag == api.TagKey {
		return [][]int{{0, 6, 0}, {64, 6, 0}, {1, 6, 1}, {63, 6, 255}, {20, 6, 1000}}
	}
	if k.most[0] < 0 {
		return [][]int{{0}, {1}, {8}, {32}, {255}, {256}, {65536}, {65537}}
	}
	return [][]int{k.least}
}

// counted gives n bytes that do not come again at once.
func counted(n int) []byte {
	b := make([]byte, n)
	for i := range b {
		b[i] = byte(i*7 + i/251 + 1)
	}
	return b
}

// partsOf gives parts of these sizes, no two of which begin alike.
func partsOf(sizes []int) [][]byte {
	var parts [][]byte
	for i, n := range sizes {
		part := counted(n)
		for j := range part {
			part[j] += byte(50 * i)
		}
		parts = append(parts, part)
	}
	return parts
}

// frame gives a frame, put together by the library.
func frame(b []byte) []byte {
	return append(binary.BigEndian.AppendUint64(nil, uint64(len(b))), b...)
}

// theirs gives the tagged bytes, put together by the library.
func theirs(word string, parts [][]byte) []byte {
	out := frame([]byte(word))
	for _, part := range parts {
		out = append(out, frame(part)...)
	}
	return out
}

// roomy gives a list with spare room, and a function that tells whether the list or its room was changed.
func roomy(list []byte) ([]byte, func() bool) {
	whole := append(bytes.Clone(list), counted(40)...)
	before := bytes.Clone(whole)
	return whole[:len(list)], func() bool { return !bytes.Equal(whole, before) }
}

// spoil overwrites a list and its spare room.
func spoil(b []byte) {
	b = b[:cap(b)]
	for i := range b {
		b[i] ^= 238
	}
}

func sameLists(a, b [][]byte) bool { return slices.EqualFunc(a, b, bytes.Equal) }

func TestP5_1Word(t *testing.T) {
	known := map[api.Tag]string{}
	for _, k := range kinds() {
		known[k.tag] = k.word
	}
	if len(known) != 9 {
		t.Fatalf("%d tags", len(known))
	}
	for n := range 256 {
		if got := tag.Word(api.Tag(n)); got != known[api.Tag(n)] {
			t.Errorf("Word(%d): %q instead of %q", n, got, known[api.Tag(n)])
		}
	}
}

// wantTaken asks for the bytes and the digest of a tag and parts that go together.
func wantTaken(t *testing.T, k kind, parts [][]byte) {
	t.Helper()
	want := theirs(k.word, parts)
	if got, e := tag.Bytes(k.tag, parts...); e != api.OK || !bytes.Equal(got, want) {
		t.Errorf("%s: Bytes: %d bytes instead of %d, or others, %d", k.word, len(got), len(want), e)
	}
	if got, e := tag.Digest(k.tag, parts...); e != api.OK || got != sha256.Sum256(want) {
		t.Errorf("%s: Digest of %d bytes: %x, %d", k.word, len(want), got, e)
	}
}

// wantRefused asks for an error of both.
func wantRefused(t *testing.T, g api.Tag, parts [][]byte, want api.Errno) {
	t.Helper()
	what := fmt.Sprint("tag ", g, ", parts of")
	for _, part := range parts {
		what += fmt.Sprint(" ", len(part))
	}
	if got, e := tag.Bytes(g, parts...); e != want || len(got) != 0 {
		t.Errorf("%s: Bytes: %d bytes, %d instead of %d", what, len(got), e, want)
	}
	if got, e := tag.Digest(g, parts...); e != want || got != (api.Digest{}) {
		t.Errorf("%s: Digest: %x, %d instead of %d", what, got, e, want)
	}
}

func TestP5_2Example(t *testing.T) {
	want := slices.Concat([]byte{0, 0, 0, 0, 0, 0, 0, 0x0e}, []byte("strongroom pad"), []byte{0, 0, 0, 0, 0, 0, 0, 4, 0, 0, 0, 7})
	if got, e := tag.Bytes(api.TagPad, []byte{0, 0, 0, 7}); e != api.OK || !bytes.Equal(got, want) {
		t.Errorf("% x, %d", got, e)
	}
	wantRefused(t, api.TagPad, [][]byte{{7}}, api.ErrParts)
	wantRefused(t, api.TagNode, [][]byte{counted(32)}, api.ErrParts)
	wantRefused(t, 0, nil, api.ErrTag)
}

func TestP5_2Taken(t *testing.T) {
	for _, k := range kinds() {
		for _, sizes := range k.sizes() {
			wantTaken(t, k, partsOf(sizes))
		}
	}
	wantTaken(t, kinds()[0], [][]byte{nil, counted(6), {}})
	wantTaken(t, kinds()[2], [][]byte{nil})
}

func TestP5_2GreatestFile(t *testing.T) {
	k := kinds()[0]
	file := counted(api.MaxFile + 1)
	wantTaken(t, k, [][]byte{counted(64), counted(6), file[:api.MaxFile]})
	wantRefused(t, k.tag, [][]byte{counted(64), counted(6), file}, api.ErrParts)
	wantTaken(t, kinds()[2], [][]byte{file}) // a block may have any number of bytes
}

func TestP5_2NoSuchTag(t *testing.T) {
	for n := range 256 {
		if tag.Word(api.Tag(n)) != "" {
			continue
		}
		for _, sizes := range [][]int{nil, {0}, {4}, {16}, {32}, {32, 32}, {0, 6, 0}} {
			wantRefused(t, api.Tag(n), partsOf(sizes), api.ErrTag)
		}
	}
}

func TestP5_2OtherNumberOfParts(t *testing.T) {
	for _, k := range kinds() {
		parts := partsOf(k.least)
		for n := range len(parts) {
			wantRefused(t, k.tag, parts[:n], api.ErrParts)
			wantRefused(t, k.tag, slices.Delete(partsOf(k.least), n, n+1), api.ErrParts)
		}
		for _, more := range [][]byte{nil, {}, {1}, counted(32)} {
			wantRefused(t, k.tag, append(partsOf(k.least), more), api.ErrParts)
		}
		wantRefused(t, k.tag, append(partsOf(k.least), partsOf(k.least)...), api.ErrParts)
	}
}

func TestP5_2OtherNumberOfBytes(t *testing.T) {
	for _, k := range kinds() {
		for i := range k.least {
			for n := range 100 {
				sizes := slices.Clone(k.least)
				sizes[i] = n
				if n >= k.least[i] && (k.most[i] < 0 || n <= k.most[i]) {
					wantTaken(t, k, partsOf(sizes))
				} else {
					wantRefused(t, k.tag, partsOf(sizes), api.ErrParts)
				}
			}
		}
	}
	wantRefused(t, api.TagRing, partsOf([]int{4, 16}), api.ErrParts)
	wantRefused(t, api.TagNode, partsOf([]int{31, 33}), api.ErrParts)
}

func TestP5_2Memory(t *testing.T) {
	for _, k := range kinds() {
		list, listed := make([][]byte, 0, 8), []func() bool{}
		for _, part := range partsOf(k.sizes()[0]) {
			b, changed := roomy(part)
			list, listed = append(list, b), append(listed, changed)
		}
		spare := counted(3)
		whole := list[:len(list)+1]
		whole[len(list)] = spare
		want := theirs(k.word, list)
		first, _ := tag.Bytes(k.tag, list...)
		second, _ := tag.Bytes(k.tag, list...)
		tag.Digest(k.tag, list...)
		spoil(first)
		if !bytes.Equal(second, want) {
			t.Errorf("%s: the second answer has a part of the first", k.word)
		}
		for i, changed := range listed {
			if changed() {
				t.Errorf("%s: part %d was changed", k.word, i)
			}
			spoil(list[i])
		}
		if !bytes.Equal(whole[len(list)], counted(3)) || !bytes.Equal(second, want) {
			t.Errorf("%s: the arguments' room was changed, or the answer has a part in them", k.word)
		}
	}
}

func TestP5_3Examples(t *testing.T) {
	pad := frame([]byte("strongroom pad"))
	wantNone(t, nil, 0, api.ErrTagged)
	wantNone(t, []byte{}, 0, api.ErrTagged)
	wantNone(t, []byte{0, 0, 0, 0, 0, 0, 0, 2, 0x61}, 0, api.ErrTagged)
	wantNone(t, slices.Concat(pad, counted(7)), 22, api.ErrTagged)
	wantNone(t, frame([]byte("strongroom")), 0, api.ErrTag)
	wantNone(t, pad, 0, api.ErrParts)
	l, r := counted(32), counted(64)[32:]
	b, _ := tag.Bytes(api.TagNode, l, r)
	wantRead(t, b, api.TagNode, [][]byte{l, r})
}

// wantNone asks that bytes be read as no tag's.
func wantNone(t *testing.T, b []byte, at int, want api.Errno) {
	t.Helper()
	g, parts, place, e := tag.Read(b)
	if g != 0 || len(parts) != 0 || place != at || e != want {
		t.Errorf("Read of %d bytes (% x ..): %d, %d parts, %d, %d instead of %d, %d", len(b), b[:min(len(b), 40)], g, len(parts), place, e, at, want)
	}
}

// wantRead asks that bytes be read as a tag and parts.
func wantRead(t *testing.T, b []byte, g api.Tag, want [][]byte) {
	t.Helper()
	got, parts, at, e := tag.Read(b)
	if got != g || !sameLists(parts, want) || at != 0 || e != api.OK {
		t.Errorf("Read of %d bytes: %d instead of %d, %d parts, %d, %d", len(b), got, g, len(parts), at, e)
	}
}

func TestP5_3Shortened(t *testing.T) {
	for _, k := range kinds() {
		parts := partsOf(k.sizes()[0])
		whole := theirs(k.word, parts)
		ends := map[int]int{0: 0} // the places at which frames end, and how many there are
		end := 0
		for i, list := range append([][]byte{[]byte(k.word)}, parts...) {
			end += 8 + len(list)
			ends[end] = i + 1
		}
		begin := 0 // of the frame that is cut through
		for n := range len(whole) {
			count, between := ends[n]
			switch {
			case n == 0:
				wantNone(t, whole[:n], 0, api.ErrTagged)
			case between && count > 0:
				begin = n
				wantNone(t, whole[:n], 0, api.ErrParts)
			default:
				wantNone(t, whole[:n], begin, api.ErrTagged)
			}
		}
		wantRead(t, whole, k.tag, parts)
	}
}

func TestP5_3NotWhole(t *testing.T) {
	good := theirs("strongroom ring", partsOf([]int{16, 4}))
	for _, tail := range [][]byte{
		{0}, counted(7),
		{0, 0, 0, 0, 0, 0, 0, 1}, {0, 0, 0, 0, 0, 0, 0, 5, 1, 2, 3, 4},
		{0, 0, 0, 1, 0, 0, 0, 0}, {0, 0, 0, 1, 0, 0, 0, 1, 9},
		{127, 255, 255, 255, 255, 255, 255, 255}, {127, 255, 255, 255, 255, 255, 255, 248, 1},
		{128, 0, 0, 0, 0, 0, 0, 0}, {128, 0, 0, 0, 0, 0, 0, 1, 9},
		{255, 255, 255, 255, 255, 255, 255, 255}, {255, 255, 255, 255, 255, 255, 255, 248, 1},
	} {
		wantNone(t, tail, 0, api.ErrTagged)
		wantNone(t, slices.Concat(good, tail), len(good), api.ErrTagged)
		// A frame that is not whole is told ahead of a wrong tag or wrong parts.
		wrong := frame([]byte("no tag"))
		wantNone(t, slices.Concat(wrong, tail), len(wrong), api.ErrTagged)
		lacks := frame([]byte("strongroom node"))
		wantNone(t, slices.Concat(lacks, tail), len(lacks), api.ErrTagged)
		// And the first of them, from the left.
		wantNone(t, slices.Concat(lacks, frame(nil), tail), len(lacks)+8, api.ErrTagged)
	}
}

func TestP5_3NoTag(t *testing.T) {
	for _, text := range []string{"", "strongroom", "strongroom ", "strongroom nodes", "strongroom nod", "Strongroom node", "node", "strongroom node\x00", "\x00strongroom node", "strongroom  node"} {
		for _, sizes := range [][]int{nil, {4}, {32}, {32, 32}, {0, 0, 0, 0}} {
			wantNone(t, theirs(text, partsOf(sizes)), 0, api.ErrTag)
		}
	}
	wantNone(t, make([]byte, 8), 0, api.ErrTag)
	wantNone(t, make([]byte, 80), 0, api.ErrTag)
	wantNone(t, make([]byte, 81), 80, api.ErrTagged)
}

func TestP5_3OtherParts(t *testing.T) {
	for _, k := range kinds() {
		for i := range k.least {
			for n := range 100 {
				sizes := slices.Clone(k.least)
				sizes[i] = n
				b := theirs(k.word, partsOf(sizes))
				if n >= k.least[i] && (k.most[i] < 0 || n <= k.most[i]) {
					wantRead(t, b, k.tag, partsOf(sizes))
				} else {
					wantNone(t, b, 0, api.ErrParts)
				}
			}
		}
		wantNone(t, theirs(k.word, nil), 0, api.ErrParts)
		wantNone(t, theirs(k.word, append(partsOf(k.least), nil)), 0, api.ErrParts)
		wantNone(t, theirs(k.word, append(partsOf(k.least), counted(3))), 0, api.ErrParts)
	}
}

func TestP5_3GreatestFile(t *testing.T) {
	file := counted(api.MaxFile + 1)
	parts := [][]byte{counted(64), counted(6), file[:api.MaxFile]}
	wantRead(t, theirs("strongroom key", parts), api.TagKey, parts)
	wantNone(t, theirs("strongroom key", [][]byte{counted(64), counted(6), file}), 0, api.ErrParts)
}

func TestP5_3Memory(t *testing.T) {
	for _, k := range kinds() {
		want := partsOf(k.sizes()[len(k.sizes())-1])
		b, changed := roomy(theirs(k.word, want))
		_, first, _, _ := tag.Read(b)
		_, second, _, _ := tag.Read(b)
		for i := range first {
			spoil(first[i])
			first[i] = append(first[i], 1)
		}
		if changed() {
			t.Errorf("%s: the argument was changed, or has a part in the answer", k.word)
		}
		for i := range second {
			if !bytes.Equal(second[i], want[i]) {
				t.Errorf("%s: the second answer has a part of the first", k.word)
			}
			spoil(second[i])
			for j := i + 1; j < len(second); j++ {
				if !bytes.Equal(second[j], want[j]) {
					t.Errorf("%s: part %d has a part in part %d", k.word, i, j)
				}
			}
		}
		_, third, _, _ := tag.Read(b)
		spoil(b)
		if !sameLists(third, want) {
			t.Errorf("%s: the answer has a part in the argument", k.word)
		}
	}
}

func TestP5_6ThereAndBack(t *testing.T) {
	for _, k := range kinds() {
		for _, sizes := range k.sizes() {
			parts := partsOf(sizes)
			b, e := tag.Bytes(k.tag, parts...)
			if e != api.OK {
				t.Fatalf("%s: %d", k.word, e)
			}
			wantRead(t, b, k.tag, parts)
			g, read, _, _ := tag.Read(b)
			if again, e := tag.Bytes(g, read...); e != api.OK || !bytes.Equal(again, b) {
				t.Errorf("%s: Bytes of what is read: %d bytes instead of %d, %d", k.word, len(again), len(b), e)
			}
		}
	}
}

// Every byte of tagged bytes is altered once: what is read of them then is what they are made of.
func TestP5_6Altered(t *testing.T) {
	for _, k := range kinds() {
		whole := theirs(k.word, partsOf(k.sizes()[0]))
		for i := range whole {
			for _, by := range []byte{1, 8, 128, 255} {
				b := bytes.Clone(whole)
				b[i] ^= by
				g, parts, _, e := tag.Read(b)
				if e != api.OK {
					continue
				}
				if again, f := tag.Bytes(g, parts...); f != api.OK || !bytes.Equal(again, b) {
					t.Errorf("%s, byte %d: Bytes of what is read is another, %d", k.word, i, f)
				}
			}
		}
	}
}

func TestP5_6Unlike(t *testing.T) {
	a, b := counted(32), counted(64)[32:]
	seen := map[string]int{}
	for i, pair := range []struct {
		tag   api.Tag
		parts [][]byte
	}{
		{api.TagNode, [][]byte{a, b}},
		{api.TagNode, [][]byte{b, a}},
		{api.TagRoot, [][]byte{a}},
		{api.TagBlock, [][]byte{a}},
		{api.TagSegment, [][]byte{a}},
		{api.TagUeb, [][]byte{a}},
		{api.TagBlock, [][]byte{slices.Concat(a, frame(b))}},
		{api.TagBlock, [][]byte{slices.Concat(a, b)}},
		{api.TagBlock, [][]byte{nil}},
		{api.TagSegment, [][]byte{nil}},
		{api.TagBlock, [][]byte{{0}}},
		{api.TagKey, [][]byte{{1}, counted(6), {2, 3}}},
		{api.TagKey, [][]byte{{1, 2}, counted(6), {3}}},
		{api.TagKey, [][]byte{nil, counted(6), {1, 2, 3}}},
	} {
		x, e := tag.Bytes(pair.tag, pair.parts...)
		if before, there := seen[string(x)]; e != api.OK || there {
			t.Errorf("pair %d has the bytes of pair %d, %d", i, before, e)
		}
		seen[string(x)] = i
	}
}
