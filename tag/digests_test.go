package tag_test

import (
	"bytes"
	"crypto/sha256"
	"math"
	"testing"

	"strongroom/api"
	"strongroom/tag"
)

// sumOf gives the digest of a tag's text and parts, by the library.
func sumOf(word string, parts ...[]byte) [32]byte { return sha256.Sum256(theirs(word, parts)) }

func TestP5_4Key(t *testing.T) {
	for _, c := range []struct {
		secret    []byte
		k, n, seg int
		file      []byte
		params    []byte
	}{
		{nil, 1, 1, 1, nil, []byte{1, 1, 0, 0, 0, 1}},
		{nil, 1, 255, 65790, counted(33), []byte{1, 255, 0, 1, 0, 0xfe}},
		{counted(64), 255, 255, 65790, counted(33), []byte{255, 255, 0, 1, 0, 0xfe}},
		{counted(64), 3, 10, 65536, counted(1000), []byte{3, 10, 0, 1, 0, 0}},
		{counted(63), 3, 10, 65535, counted(1000), []byte{3, 10, 0, 0, 255, 255}},
		{[]byte("secret"), 10, 20, 258, counted(1), []byte{10, 20, 0, 0, 1, 2}},
		{[]byte{9}, 128, 254, 0x1234, counted(100000), []byte{128, 254, 0, 0, 0x12, 0x34}},
	} {
		secret, first := roomy(c.secret)
		file, second := roomy(c.file)
		want := sumOf("strongroom key", c.secret, c.params, c.file)
		got, e := tag.Key(secret, c.k, c.n, c.seg, file)
		if e != api.OK || got != api.Key(want[:16]) {
			t.Errorf("Key(%d bytes, %d, %d, %d, %d bytes): %x, %d instead of %x", len(secret), c.k, c.n, c.seg, len(file), got, e, want[:16])
		}
		if first() || second() {
			t.Errorf("Key(.., %d, %d, %d, ..): an argument was changed", c.k, c.n, c.seg)
		}
	}
}

func wantNoKey(t *testing.T, secret, k, n, seg, file int, want api.Errno) {
	t.Helper()
	if got, e := tag.Key(make([]byte, secret), k, n, seg, make([]byte, file)); got != (api.Key{}) || e != want {
		t.Errorf("Key(%d bytes, %d, %d, %d, %d bytes): %x, %d instead of %d", secret, k, n, seg, file, got, e, want)
	}
}

func TestP5_4Refused(t *testing.T) {
	for _, size := range []int{65, 66, 1000} {
		wantNoKey(t, size, 1, 1, 1, 40, api.ErrParams)
	}
	for _, k := range []int{math.MinInt, -255, -1, 0, 6, 7, 256, 257, 261, 1 << 32, 1<<32 + 1, math.MaxInt} {
		wantNoKey(t, 0, k, 5, 100, 40, api.ErrParams)
	}
	for _, n := range []int{math.MinInt, -1, 0, 256, 257, 258, 1<<32 + 1, math.MaxInt} {
		wantNoKey(t, 0, 1, n, 100, 40, api.ErrParams)
		wantNoKey(t, 0, n, n, 100, 40, api.ErrParams)
	}
	for _, seg := range []int{math.MinInt, -1, 0, 65791, 65792, 1 << 24, 1<<32 + 1, math.MaxInt} {
		wantNoKey(t, 0, 1, 255, seg, 40, api.ErrParams)
	}
}

func TestP5_4GreatestFile(t *testing.T) {
	file := counted(api.MaxFile)
	want := sumOf("strongroom key", []byte("s"), []byte{1, 2, 0, 0, 0, 3}, file)
	if got, e := tag.Key([]byte("s"), 1, 2, 3, file); e != api.OK || got != api.Key(want[:16]) {
		t.Errorf("%x, %d instead of %x", got, e, want[:16])
	}
	wantNoKey(t, 0, 1, 1, 1, api.MaxFile+1, api.ErrSize)
	wantNoKey(t, 64, 255, 255, 65790, api.MaxFile+1, api.ErrSize)
	// Parameters that may not be are told first.
	wantNoKey(t, 65, 1, 1, 1, api.MaxFile+1, api.ErrParams)
	wantNoKey(t, 0, 2, 1, 1, api.MaxFile+1, api.ErrParams)
	wantNoKey(t, 0, 1, 1, 65791, api.MaxFile+1, api.ErrParams)
}

func TestP5_5Index(t *testing.T) {
	for _, k := range []api.Key{{}, api.Key(counted(16)), api.Key(bytes.Repeat([]byte{255}, 16))} {
		want := sumOf("strongroom index", k[:])
		if got := tag.Index(k); got != api.Index(want[:16]) {
			t.Errorf("Index(%x): %x instead of %x", k, got, want[:16])
		}
	}
}

func wantSum(t *testing.T, what string, got api.Digest, want [32]byte) {
	t.Helper()
	if got != want {
		t.Errorf("%s: %x instead of %x", what, got, want)
	}
}

func TestP5_5OfBytes(t *testing.T) {
	for _, n := range []int{0, 1, 32, 33, 100, 255, 256, 65536, 65791} {
		b, changed := roomy(counted(n))
		wantSum(t, "Block", tag.Block(b), sumOf("strongroom block", b))
		wantSum(t, "Segment", tag.Segment(b), sumOf("strongroom segment", b))
		wantSum(t, "Ueb", tag.Ueb(b), sumOf("strongroom ueb", b))
		if changed() {
			t.Errorf("%d bytes: the argument was changed", n)
		}
	}
	wantSum(t, "Block(nil)", tag.Block(nil), sumOf("strongroom block", nil))
	wantSum(t, "Segment(nil)", tag.Segment(nil), sumOf("strongroom segment", nil))
	wantSum(t, "Ueb(nil)", tag.Ueb(nil), sumOf("strongroom ueb", nil))
}

func TestP5_5OfDigests(t *testing.T) {
	all := []api.Digest{{}, api.Digest(counted(32)), api.Digest(counted(64)[32:]), api.Digest(bytes.Repeat([]byte{255}, 32))}
	for _, a := range all {
		wantSum(t, "Root", tag.Root(a), sumOf("strongroom root", a[:]))
		for _, b := range all {
			wantSum(t, "Node", tag.Node(a, b), sumOf("strongroom node", a[:], b[:]))
		}
	}
}

func TestP5_5OfNumbers(t *testing.T) {
	for x, b := range map[uint32][]byte{
		0:              {0, 0, 0, 0},
		7:              {0, 0, 0, 7},
		258:            {0, 0, 1, 2},
		0x01020304:     {1, 2, 3, 4},
		1 << 31:        {128, 0, 0, 0},
		math.MaxUint32: {255, 255, 255, 255},
	} {
		wantSum(t, "Pad", tag.Pad(x), sumOf("strongroom pad", b))
		for _, i := range []api.Index{{}, api.Index(counted(16))} {
			wantSum(t, "Ring", tag.Ring(i, x), sumOf("strongroom ring", i[:], b))
		}
	}
}
