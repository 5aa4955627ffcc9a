package sha_test

import (
	"bytes"
	"crypto/sha256"
	"encoding/hex"
	"math"
	"math/big"
	"slices"
	"strings"
	"testing"

	"strongroom/api"
	"strongroom/sha"
)

// The examples of the document, and a message of more than one block.
const (
	ofNothing = "e3b0c44298fc1c149afbf4c8996fb92427ae41e4649b934ca495991b7852b855"
	ofABC     = "ba7816bf8f01cfea414140de5dae2223b00361a396177a9cb410ff61f20015ad"
	ofLong    = "248d6a61d20638b8e5c026930c3e6039a33ce45964ff2167f6ecedd419db06c1"
	ofMillion = "cdc76e5c9914fb9281a1c7e284d73e67f1809a48a497200e046d39ccc7112cd0"
	long      = "abcdbcdecdefdefgefghfghighijhijkijkljklmklmnlmnomnopnopq"
)

// roomy gives a list with spare room, and a function that tells whether the list or its room was changed.
func roomy(list ...byte) ([]byte, func() bool) {
	whole := append(bytes.Clone(list), bytes.Repeat([]byte{201}, 80)...)
	before := bytes.Clone(whole)
	return whole[:len(list)], func() bool { return !bytes.Equal(whole, before) }
}

// counted gives n bytes that do not come again at once.
func counted(n int) []byte {
	b := make([]byte, n)
	for i := range b {
		b[i] = byte(i*7 + i/251)
	}
	return b
}

func text(d api.Digest) string { return hex.EncodeToString(d[:]) }

func wantDigest(t *testing.T, what string, got api.Digest, want string) {
	t.Helper()
	if text(got) != want {
		t.Errorf("%s: %s instead of %s", what, text(got), want)
	}
}

// rooted gives the first 32 bits behind the point of a root of a prime: the square root, or the cube root.
func rooted(prime int64, cube bool) uint32 {
	shift, power := uint(64), int64(2)
	if cube {
		shift, power = 96, 3
	}
	top := new(big.Int).Lsh(big.NewInt(prime), shift)
	low, high := big.NewInt(0), new(big.Int).Lsh(big.NewInt(1), 48)
	for {
		middle := new(big.Int).Rsh(new(big.Int).Add(low, high), 1)
		if middle.Cmp(low) == 0 {
			return uint32(low.Uint64())
		}
		if new(big.Int).Exp(middle, big.NewInt(power), nil).Cmp(top) <= 0 {
			low = middle
		} else {
			high = middle
		}
	}
}

func TestP2_1Initial(t *testing.T) {
	for i, prime := range []int64{2, 3, 5, 7, 11, 13, 17, 19} {
		if got, want := sha.Initial()[i], rooted(prime, false); got != want {
			t.Errorf("word %d: %08x instead of %08x", i, got, want)
		}
	}
	first := sha.Initial()
	first[0] = 0
	if sha.Initial()[0] == 0 {
		t.Error("an answer has a part in the words")
	}
}

// slowMix mixes by the letter of the chapter, with constants of its own.
func slowMix(words [8]uint32, block [64]byte) [8]uint32 {
	right := func(x uint32, n uint) uint32 { return x>>n | x<<(32-n) }
	w := make([]uint32, 64)
	for t := range w {
		if t < 16 {
			w[t] = uint32(block[4*t])*1<<24 + uint32(block[4*t+1])*1<<16 + uint32(block[4*t+2])*1<<8 + uint32(block[4*t+3])
			continue
		}
		s0 := right(w[t-15], 7) ^ right(w[t-15], 18) ^ (w[t-15] >> 3)
		s1 := right(w[t-2], 17) ^ right(w[t-2], 19) ^ (w[t-2] >> 10)
		w[t] = s1 + w[t-7] + s0 + w[t-16]
	}
	x := words
	prime := int64(1)
	for t := range w {
		for prime++; !big.NewInt(prime).ProbablyPrime(20); prime++ {
		}
		u := x[7] + (right(x[4], 6) ^ right(x[4], 11) ^ right(x[4], 25)) + ((x[4] & x[5]) ^ (^x[4] & x[6])) + rooted(prime, true) + w[t]
		v := (right(x[0], 2) ^ right(x[0], 13) ^ right(x[0], 22)) + ((x[0] & x[1]) ^ (x[0] & x[2]) ^ (x[1] & x[2]))
		x = [8]uint32{u + v, x[0], x[1], x[2], x[3] + u, x[4], x[5], x[6]}
	}
	for i := range words {
		words[i] += x[i]
	}
	return words
}

func TestP2_1Mix(t *testing.T) {
	var abc [64]byte
	copy(abc[:], "abc\x80")
	abc[63] = 24
	want := [8]uint32{0xba7816bf, 0x8f01cfea, 0x414140de, 0x5dae2223, 0xb00361a3, 0x96177a9c, 0xb410ff61, 0xf20015ad}
	if got := sha.Mix(sha.Initial(), abc); got != want {
		t.Errorf("abc: %08x", got)
	}
	full := [64]byte(bytes.Repeat([]byte{255}, 64))
	most := [8]uint32{}
	for i := range most {
		most[i] = math.MaxUint32
	}
	for i, words := range [][8]uint32{{}, sha.Initial(), most, {1, 2, 3, 4, 5, 6, 7, 8}} {
		for j, block := range [][64]byte{{}, abc, full, [64]byte(counted(64))} {
			if got, want := sha.Mix(words, block), slowMix(words, block); got != want {
				t.Errorf("words %d, block %d: %08x instead of %08x", i, j, got, want)
			}
		}
	}
}

func TestP2_1Pad(t *testing.T) {
	for _, c := range []struct {
		n, noughts int
		length     [8]byte
	}{
		{0, 55, [8]byte{}},
		{1, 54, [8]byte{7: 8}},
		{31, 24, [8]byte{7: 0xf8}},
		{32, 23, [8]byte{6: 1}},
		{54, 1, [8]byte{6: 1, 7: 0xb0}},
		{55, 0, [8]byte{6: 1, 7: 0xb8}},
		{56, 63, [8]byte{6: 1, 7: 0xc0}},
		{63, 56, [8]byte{6: 1, 7: 0xf8}},
		{64, 55, [8]byte{6: 2}},
		{119, 0, [8]byte{6: 3, 7: 0xb8}},
		{120, 63, [8]byte{6: 3, 7: 0xc0}},
		{1 << 29, 55, [8]byte{3: 1}},
		{1<<60 - 1, 56, [8]byte{0x7f, 0xff, 0xff, 0xff, 0xff, 0xff, 0xff, 0xf8}},
		{1 << 60, 55, [8]byte{0x80}},
	} {
		want := slices.Concat([]byte{0x80}, make([]byte, c.noughts), c.length[:])
		if got, e := sha.Pad(c.n); e != api.OK || !bytes.Equal(got, want) {
			t.Errorf("Pad(%d): %x, %d instead of %x", c.n, got, e, want)
		}
	}
	for _, n := range []int{-1, -64, math.MinInt, 1<<60 + 1, math.MaxInt} {
		if got, e := sha.Pad(n); e != api.ErrArg || len(got) != 0 {
			t.Errorf("Pad(%d): %x, %d", n, got, e)
		}
	}
	first, _ := sha.Pad(3)
	clear(first[:cap(first)])
	if second, _ := sha.Pad(3); second[0] != 0x80 {
		t.Error("an answer has a part in another one")
	}
}

func TestP2_2Examples(t *testing.T) {
	wantDigest(t, "nothing", sha.Sum(), ofNothing)
	wantDigest(t, "empty parts", sha.Sum(nil, []byte{}, nil), ofNothing)
	wantDigest(t, "abc", sha.Sum([]byte("abc")), ofABC)
	wantDigest(t, "a, nothing, bc", sha.Sum([]byte("a"), []byte{}, []byte("bc")), ofABC)
	wantDigest(t, "a, nil, bc", sha.Sum([]byte("a"), nil, []byte("bc")), ofABC)
	wantDigest(t, "56 letters", sha.Sum([]byte(long)), ofLong)
	wantDigest(t, "a million", sha.Sum(bytes.Repeat([]byte{'a'}, 1000000)), ofMillion)
	if sha.Sum([]byte("a"), []byte("b")) == sha.Sum([]byte("b"), []byte("a")) {
		t.Error("the order of the parts is not seen")
	}
}

func TestP2_2AllLengths(t *testing.T) {
	for n := range 300 {
		b, changed := roomy(counted(n)...)
		if got := sha.Sum(b); got != sha256.Sum256(b) {
			t.Errorf("%d bytes: %s", n, text(got))
		}
		if changed() {
			t.Errorf("%d bytes: the argument was changed", n)
		}
	}
	for _, n := range []int{4095, 4096, 65537, 1 << 20} {
		if b := counted(n); sha.Sum(b) != sha256.Sum256(b) {
			t.Errorf("%d bytes", n)
		}
	}
}

func TestP2_2ManyParts(t *testing.T) {
	b := counted(200)
	want := sha256.Sum256(b)
	for first := 0; first <= len(b); first += 3 {
		for second := first; second <= len(b); second += 7 {
			if got := sha.Sum(b[:first], b[first:second], b[second:]); got != want {
				t.Errorf("cut at %d and %d: %s", first, second, text(got))
			}
		}
	}
	if got := sha.Sum(slices.Collect(slices.Chunk(b, 1))...); got != want {
		t.Errorf("byte by byte: %s", text(got))
	}
	if !bytes.Equal(b, counted(200)) {
		t.Error("the argument was changed")
	}
}

func TestP2_6(t *testing.T) {
	for n := range 1000 {
		pad, e := sha.Pad(n)
		if e != api.OK || len(pad) < 9 || len(pad) > 72 || (n+len(pad))%64 != 0 {
			t.Errorf("Pad(%d) has %d bytes, %d", n, len(pad), e)
		}
	}
	// Messages that are as alike as can be: one of noughts and one that is cut off it, or that looks like what is put behind another.
	seen := map[string]int{}
	for n := range 200 {
		pad, _ := sha.Pad(n)
		whole := strings.Repeat("\x00", n) + string(pad)
		if m, there := seen[whole]; there {
			t.Errorf("%d and %d bytes are alike", m, n)
		}
		seen[whole] = n
	}
	pad, _ := sha.Pad(3)
	longer := append([]byte("abc"), pad...)
	if sha.Sum(longer) == sha.Sum([]byte("abc")) {
		t.Error("a message and what is put behind it have the digest of the message")
	}
}
