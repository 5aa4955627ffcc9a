package ctr_test

import (
	"bytes"
	"math"
	"testing"

	"strongroom/api"
	"strongroom/ctr"
)

func next(t *testing.T, c *ctr.Cipher, b []byte) []byte {
	t.Helper()
	out, e := c.Next(b)
	if e != api.OK {
		t.Fatalf("Next of %d bytes at %d: %d", len(b), c.At(), e)
	}
	return out
}

func seek(t *testing.T, c *ctr.Cipher, at int) {
	t.Helper()
	if e := c.Seek(at); e != api.OK || c.At() != at {
		t.Fatalf("Seek(%d): %d, at %d", at, e, c.At())
	}
}

func wantAt(t *testing.T, c *ctr.Cipher, want int) {
	t.Helper()
	if c.At() != want {
		t.Errorf("at %d instead of %d", c.At(), want)
	}
}

func TestP4_4Examples(t *testing.T) {
	c := ctr.New(keys()[0])
	wantAt(t, c, 0)
	wantBytes(t, "5 noughts", next(t, c, make([]byte, 5)), unhex("7df76b0c1a"))
	wantAt(t, c, 5)
	wantBytes(t, "3 noughts", next(t, c, make([]byte, 3)), unhex("b899b3"))
	if e := c.Seek(-1); e != api.ErrPlace {
		t.Errorf("Seek(-1): %d", e)
	}
	wantAt(t, c, 8)
	seek(t, c, 0)
	wantBytes(t, "one nought", next(t, c, make([]byte, 1)), unhex("7d"))
	wantAt(t, c, 1)
}

func TestP4_4NextIsApply(t *testing.T) {
	for _, k := range keys() {
		c := ctr.New(k)
		for _, at := range places() {
			seek(t, c, at)
			for _, n := range []int{3, 0, 16, 1, 33} {
				b, changed := roomy(counted(n))
				wantBytes(t, "Next", next(t, c, b), apply(t, k, at, b))
				at += n
				wantAt(t, c, at)
				if changed() {
					t.Errorf("Next of %d bytes: the argument was changed", n)
				}
			}
		}
	}
}

func TestP4_4SeekRefused(t *testing.T) {
	c := ctr.New(keys()[0])
	for _, held := range []int{0, 21, api.MaxPlace} {
		seek(t, c, held)
		for _, at := range []int{-1, -16, math.MinInt, api.MaxPlace + 1, math.MaxInt} {
			if e := c.Seek(at); e != api.ErrPlace {
				t.Errorf("Seek(%d): %d", at, e)
			}
			wantAt(t, c, held)
		}
	}
	seek(t, c, 21)
	c.Seek(-1)
	wantBytes(t, "behind a refusal", next(t, c, counted(9)), theirs(keys()[0], 21, counted(9)))
}

func TestP4_4LastPlaces(t *testing.T) {
	k := keys()[0]
	c := ctr.New(k)
	for left := range 20 {
		at := api.MaxPlace - left
		seek(t, c, at)
		for _, more := range []int{1, 2, 40} {
			b, changed := roomy(counted(left + more))
			if got, e := c.Next(b); len(got) != 0 || e != api.ErrPlace || changed() {
				t.Errorf("%d bytes where %d are left: %x, %d", len(b), left, got, e)
			}
			wantAt(t, c, at)
		}
		wantBytes(t, "the last bytes", next(t, c, counted(left)), theirs(k, at, counted(left)))
		wantAt(t, c, api.MaxPlace)
		if got := next(t, c, nil); len(got) != 0 {
			t.Errorf("no bytes at the end: %x", got)
		}
		wantAt(t, c, api.MaxPlace)
	}
}

func TestP4_4CiphersApart(t *testing.T) {
	k := keys()[0]
	first, second, third := ctr.New(k), ctr.New(k), ctr.New(api.Key{})
	k[3] ^= 9
	next(t, first, counted(20))
	seek(t, third, 100)
	wantAt(t, second, 0)
	wantBytes(t, "the second", next(t, second, counted(9)), theirs(keys()[0], 0, counted(9)))
	wantBytes(t, "the first", next(t, first, counted(9)), theirs(keys()[0], 20, counted(9)))
	wantBytes(t, "the third", next(t, third, counted(9)), theirs(api.Key{}, 100, counted(9)))
}

func TestP4_4OwnMemory(t *testing.T) {
	c := ctr.New(keys()[0])
	b, changed := roomy(counted(20))
	first := next(t, c, b)
	second := next(t, c, b)
	spoil(first)
	wantBytes(t, "beside a spoilt answer", second, theirs(keys()[0], 20, counted(20)))
	if changed() {
		t.Error("the argument has a part in the answer")
	}
	spoil(b)
	wantBytes(t, "beside a spoilt argument", second, theirs(keys()[0], 20, counted(20)))
	wantBytes(t, "behind both", next(t, c, counted(20)), theirs(keys()[0], 40, counted(20)))
}

func TestP4_5NotMade(t *testing.T) {
	var none *ctr.Cipher
	for what, c := range map[string]*ctr.Cipher{"nil": none, "a zero cipher": {}, "one of new": new(ctr.Cipher)} {
		for range 2 {
			wantAt(t, c, 0)
			for _, at := range []int{0, 5, -1, api.MaxPlace, math.MaxInt} {
				if e := c.Seek(at); e != api.ErrNil {
					t.Errorf("%s: Seek(%d): %d", what, at, e)
				}
				wantAt(t, c, 0)
			}
			for _, b := range [][]byte{nil, {}, counted(20)} {
				held := bytes.Clone(b)
				if got, e := c.Next(b); len(got) != 0 || e != api.ErrNil || !bytes.Equal(b, held) {
					t.Errorf("%s: Next of %d bytes: %x, %d", what, len(b), got, e)
				}
				wantAt(t, c, 0)
			}
		}
	}
}

func TestP4_7PieceByPiece(t *testing.T) {
	file := counted(1000)
	for _, k := range keys() {
		whole := theirs(k, 0, file)
		for _, size := range []int{1, 2, 3, 7, 15, 16, 17, 32, 100, 999, 1000} {
			c := ctr.New(k)
			var got []byte
			for at := 0; at < len(file); at += size {
				got = append(got, next(t, c, file[at:min(at+size, len(file))])...)
				next(t, c, nil)
			}
			wantBytes(t, "the ciphertext", got, whole)
			wantAt(t, c, len(file))
			seek(t, c, 0)
			wantBytes(t, "and back", next(t, c, got), file)
		}
	}
}
