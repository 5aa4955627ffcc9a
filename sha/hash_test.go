package sha_test

import (
	"bytes"
	"crypto/sha256"
	"testing"

	"strongroom/api"
	"strongroom/sha"
)

func write(t *testing.T, h *sha.Hash, b []byte) {
	t.Helper()
	if e := h.Write(b); e != api.OK {
		t.Fatalf("Write: %d", e)
	}
}

func TestP2_3WriteSumSize(t *testing.T) {
	h := sha.New()
	wantDigest(t, "at first", h.Sum(), ofNothing)
	if h.Size() != 0 {
		t.Errorf("at first: size %d", h.Size())
	}
	write(t, h, []byte("a"))
	write(t, h, nil)
	write(t, h, []byte{})
	write(t, h, []byte("bc"))
	wantDigest(t, "abc", h.Sum(), ofABC)
	wantDigest(t, "abc, asked again", h.Sum(), ofABC)
	if h.Size() != 3 {
		t.Errorf("abc: size %d", h.Size())
	}
	other := sha.New()
	write(t, other, []byte(long))
	wantDigest(t, "56 letters", other.Sum(), ofLong)
	wantDigest(t, "abc, behind another hash", h.Sum(), ofABC)
}

func TestP2_3Reset(t *testing.T) {
	for _, n := range []int{0, 1, 63, 64, 65, 200} {
		h := sha.New()
		write(t, h, counted(n))
		for range 2 {
			if e := h.Reset(); e != api.OK || h.Size() != 0 {
				t.Errorf("Reset behind %d bytes: %d, size %d", n, e, h.Size())
			}
			wantDigest(t, "behind Reset", h.Sum(), ofNothing)
		}
		write(t, h, []byte("abc"))
		wantDigest(t, "abc behind Reset", h.Sum(), ofABC)
	}
}

func TestP2_3Clone(t *testing.T) {
	for _, n := range []int{0, 1, 63, 64, 65, 200} {
		head, left, right := counted(n), counted(70)[1:], counted(130)[2:]
		h := sha.New()
		write(t, h, head)
		c := h.Clone()
		if c == h {
			t.Fatal("the clone is the hash")
		}
		if c.Size() != n || c.Sum() != sha256.Sum256(head) {
			t.Errorf("%d bytes: the clone has another message", n)
		}
		write(t, h, left)
		write(t, c, right)
		if h.Sum() != sha256.Sum256(append(bytes.Clone(head), left...)) || h.Size() != n+len(left) {
			t.Errorf("%d bytes: the hash sees what the clone took", n)
		}
		if c.Sum() != sha256.Sum256(append(bytes.Clone(head), right...)) || c.Size() != n+len(right) {
			t.Errorf("%d bytes: the clone sees what the hash took", n)
		}
		h.Reset()
		if c.Size() != n+len(right) {
			t.Errorf("%d bytes: the clone was reset", n)
		}
		second := c.Clone()
		c.Reset()
		if second.Sum() != sha256.Sum256(append(bytes.Clone(head), right...)) || c.Size() != 0 {
			t.Errorf("%d bytes: a clone of the clone", n)
		}
	}
}

// R3: what is written stays as it is, and is not kept.
func TestP2_3WriteKeepsNothing(t *testing.T) {
	for _, n := range []int{1, 63, 64, 65, 130} {
		b, changed := roomy(counted(n)...)
		want := sha256.Sum256(b)
		h := sha.New()
		write(t, h, b)
		h.Sum()
		if changed() {
			t.Errorf("%d bytes: the argument was changed", n)
		}
		clear(b)
		if h.Sum() != want {
			t.Errorf("%d bytes: the argument was kept", n)
		}
	}
}

func TestP2_4(t *testing.T) {
	var none *sha.Hash
	for what, h := range map[string]*sha.Hash{"nil": none, "a zero hash": {}, "one of new": new(sha.Hash)} {
		for range 2 {
			if e := h.Write([]byte("abc")); e != api.ErrNil {
				t.Errorf("%s: Write: %d", what, e)
			}
			if e := h.Write(nil); e != api.ErrNil {
				t.Errorf("%s: Write of nothing: %d", what, e)
			}
			if h.Sum() != (api.Digest{}) || h.Size() != 0 {
				t.Errorf("%s: %s, size %d", what, text(h.Sum()), h.Size())
			}
			if e := h.Reset(); e != api.ErrNil {
				t.Errorf("%s: Reset: %d", what, e)
			}
			if h.Clone() != nil {
				t.Errorf("%s: a clone", what)
			}
		}
	}
}

func TestP2_5CutInTwo(t *testing.T) {
	b := counted(260)
	for cut := range b {
		h := sha.New()
		write(t, h, b[:cut])
		if h.Sum() != sha256.Sum256(b[:cut]) {
			t.Errorf("the first %d bytes", cut)
		}
		write(t, h, b[cut:])
		if h.Sum() != sha256.Sum256(b) || h.Size() != len(b) {
			t.Errorf("cut at %d", cut)
		}
	}
}

func TestP2_5AskedInBetween(t *testing.T) {
	b := counted(1000)
	want := sha256.Sum256(b)
	for _, size := range []int{1, 3, 55, 56, 63, 64, 65, 127, 128, 129, 333, 999} {
		h := sha.New()
		for at := 0; at < len(b); at += size {
			end := min(at+size, len(b))
			write(t, h, b[at:end])
			h.Clone().Write([]byte("more"))
			if h.Size() != end || h.Sum() != sha256.Sum256(b[:end]) {
				t.Fatalf("pieces of %d: behind %d bytes", size, end)
			}
		}
		if h.Sum() != want || h.Clone().Sum() != want {
			t.Errorf("pieces of %d", size)
		}
	}
}

func TestP2_5Million(t *testing.T) {
	h := sha.New()
	piece := bytes.Repeat([]byte{'a'}, 1000)
	for range 1000 {
		write(t, h, piece)
	}
	wantDigest(t, "a million", h.Sum(), ofMillion)
}
