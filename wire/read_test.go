package wire_test

import (
	"bytes"
	"testing"

	"strongroom/api"
	"strongroom/wire"
)

func wantRequest(t *testing.T, b []byte, want api.Request) {
	t.Helper()
	if r, at, e := wire.Request(b); !sameRequest(r, want) || at != 0 || e != api.OK {
		t.Errorf("%.40x: %v, %d, %d instead of %v", b, r, at, e, want)
	}
}

func wantNoRequest(t *testing.T, what string, b []byte, place int) {
	t.Helper()
	if r, at, e := wire.Request(b); !sameRequest(r, api.Request{}) || at != place || e != api.ErrRequest {
		t.Errorf("%s: %v, %d, %d instead of the place %d", what, r, at, e, place)
	}
}

func wantReply(t *testing.T, b []byte, want api.Reply) {
	t.Helper()
	if r, at, e := wire.Reply(b); !sameReply(r, want) || at != 0 || e != api.OK {
		t.Errorf("%.40x: kind %d, %d, %d", b, r.Kind, at, e)
	}
}

func wantNoReply(t *testing.T, what string, b []byte, place int) {
	t.Helper()
	if r, at, e := wire.Reply(b); !sameReply(r, api.Reply{}) || at != place || e != api.ErrRepBytes {
		t.Errorf("%s: kind %d, %d, %d instead of the place %d", what, r.Kind, at, e, place)
	}
}

func TestP20_2Request(t *testing.T) {
	for _, w := range requests() {
		wantRequest(t, unhex(w.hex), w.request)
	}
	share := counted(api.MaxShare)
	b := append(unhex("02"+xHex+"00 00000000 0000000000000000 02000000"), share...)
	wantRequest(t, b, store(x, 0, 0, 0, share...))
	wantNoRequest(t, "the greatest share with a byte more", append(b, 0), len(b))
	wantNoRequest(t, "the greatest share without its last byte", b[:len(b)-1], len(b)-1)
	b[33]++
	wantNoRequest(t, "a share above the greatest", append(b, 0), 30)
}

func TestP20_2RequestExamples(t *testing.T) {
	wantNoRequest(t, "no bytes", nil, 0)
	wantNoRequest(t, "an empty list", []byte{}, 0)
	wantNoRequest(t, "09", unhex("09"), 0)
	wantNoRequest(t, "01 and 15 bytes", unhex("01" + onesHex)[:16], 16)
	wantNoRequest(t, "a Have with a byte more", unhex("01"+onesHex+"00"), 17)
	wantNoRequest(t, "a Fetch with Len 0", unhex("03"+onesHex+"02 0000012c 00000000"), 22)
	wantNoRequest(t, "a Fetch with Number 255", unhex("03"+onesHex+"ff 0000012c 00000005"), 17)
	wantNoRequest(t, "a Store that lacks a byte", unhex("02"+onesHex+"00 00000007 0000000000000009 00000002 aa"), 35)
}

func TestP20_2RequestOfNoKind(t *testing.T) {
	for kind := range 256 {
		if kind >= 1 && kind <= 5 {
			continue
		}
		for _, n := range []int{0, 1, 15, 16, 20, 25, 28, 33, 34, 100} {
			wantNoRequest(t, "no kind", append([]byte{byte(kind)}, make([]byte, n)...), 0)
		}
	}
}

// TestP20_2RequestCutOff: whatever lacks, the fault is where the bytes end; whatever is too much, it is where they should have ended.
func TestP20_2RequestCutOff(t *testing.T) {
	for _, w := range requests() {
		b := unhex(w.hex)
		for n := range b {
			wantNoRequest(t, "cut off", b[:n], n)
		}
		for n := 1; n < 40; n++ {
			wantNoRequest(t, "too long", append(bytes.Clone(b), make([]byte, n)...), len(b))
			wantNoRequest(t, "too long", append(bytes.Clone(b), bytes.Repeat([]byte{255}, n)...), len(b))
		}
	}
}

func TestP20_2RequestFields(t *testing.T) {
	for _, c := range []struct {
		what, hex string
		place     int
	}{
		{"store, number", "02" + xHex + "ff 00000000 0000000000000000 00000000", 17},
		{"store, until", "02" + xHex + "00 00000000 0000010000000001 00000000", 22},
		{"store, until twice the last tick", "02" + xHex + "00 00000000 0000020000000000 00000000", 22},
		{"store, until above any int", "02" + xHex + "00 00000000 8000000000000000 00000000", 22},
		{"store, until above any int and a bit", "02" + xHex + "00 00000000 8000000000000009 00000000", 22},
		{"store, until the greatest", "02" + xHex + "00 00000000 ffffffffffffffff 00000000", 22},
		{"store, size", "02" + xHex + "00 00000000 0000000000000000 02000001", 30},
		{"store, the greatest size", "02" + xHex + "00 00000000 0000000000000000 ffffffff", 30},
		{"store, size 2^31", "02" + xHex + "00 00000000 0000000000000000 80000000 aa", 30},
		{"store, number and until", "02" + xHex + "ff 00000000 ffffffffffffffff 00000000", 17},
		{"store, until and size", "02" + xHex + "00 00000000 ffffffffffffffff ffffffff", 22},
		{"store, number and size", "02" + xHex + "ff 00000000 0000000000000000 ffffffff", 17},
		{"store, number, and bytes lack", "02" + xHex + "ff 00000000 0000000000000000 00000002 aa", 17},
		{"store, number, and too many bytes", "02" + xHex + "ff 00000000 0000000000000000 00000002 aaaaaa", 17},
		{"store, until, and bytes lack", "02" + xHex + "00 00000000 0000010000000001 00000002", 22},
		{"store, until, and too many bytes", "02" + xHex + "00 00000000 0000010000000001 00000000 aa", 22},
		{"store, bytes lack", "02" + xHex + "00 00000000 0000000000000000 00000002", 34},
		{"store, the greatest size that may be, and no bytes", "02" + xHex + "00 00000000 0000000000000000 02000000", 34},
		{"store, too many bytes", "02" + xHex + "00 00000000 0000000000000000 00000002 aaaaaaaa", 36},
		{"fetch, number", "03" + xHex + "ff 00000000 00000001", 17},
		{"fetch, at", "03" + xHex + "00 02000001 00000001", 18},
		{"fetch, at the greatest", "03" + xHex + "00 ffffffff 00000001", 18},
		{"fetch, length 0", "03" + xHex + "00 00000000 00000000", 22},
		{"fetch, length", "03" + xHex + "00 00000000 00020001", 22},
		{"fetch, the greatest length", "03" + xHex + "00 00000000 ffffffff", 22},
		{"fetch, number and at", "03" + xHex + "ff ffffffff 00000001", 17},
		{"fetch, at and length", "03" + xHex + "00 ffffffff 00000000", 18},
		{"fetch, length, and a byte more", "03" + xHex + "00 00000000 00000000 00", 22},
		{"fetch, a byte more", "03" + xHex + "00 00000000 00000001 00", 26},
		{"renew, until", "04" + xHex + "00000000 0000010000000001", 21},
		{"renew, until above any int", "04" + xHex + "00000000 8000000000000000", 21},
		{"renew, until, and a byte more", "04" + xHex + "00000000 ffffffffffffffff 00", 21},
		{"renew, a byte more", "04" + xHex + "00000000 0000000000000000 00", 29},
		{"release, a byte more", "05" + xHex + "00000000 00", 21},
	} {
		wantNoRequest(t, c.what, unhex(c.hex), c.place)
	}
}

// TestP20_2ShortAheadOfFields: if what stands ahead of Bytes is not there, nothing else is told.
func TestP20_2ShortAheadOfFields(t *testing.T) {
	for _, h := range []string{
		"02" + xHex + "ff ffffffff ffffffffffffffff ffffffff",
		"03" + xHex + "ff ffffffff 00000000",
		"04" + xHex + "ffffffff ffffffffffffffff",
		"05" + xHex + "ffffffff",
	} {
		b := unhex(h)
		for n := 1; n < len(b); n++ {
			wantNoRequest(t, h, b[:n], n)
		}
	}
	wantNoReply(t, "a RepBytes", unhex("05 ff ff ff"), 4)
	wantNoReply(t, "a RepBytes", unhex("05 ff"), 2)
	wantNoReply(t, "a RepBytes", unhex("05"), 1)
	wantNoReply(t, "a RepNumbers", unhex("01"), 1)
}

func TestP20_2Reply(t *testing.T) {
	for _, w := range replies() {
		wantReply(t, unhex(w.hex), w.reply)
	}
}

func TestP20_2ReplyExamples(t *testing.T) {
	wantNoReply(t, "01 02 03 03", unhex("01 02 03 03"), 3)
	wantNoReply(t, "01 02 03", unhex("01 02 03"), 3)
	wantNoReply(t, "05 00 00 00 00", unhex("05 00 00 00 00"), 1)
}

func TestP20_2ReplyOfNoKind(t *testing.T) {
	wantNoReply(t, "no bytes", nil, 0)
	wantNoReply(t, "an empty list", []byte{}, 0)
	for kind := range 256 {
		if kind >= 1 && kind <= 7 {
			continue
		}
		for n := range 8 {
			wantNoReply(t, "no kind", append([]byte{byte(kind)}, make([]byte, n)...), 0)
		}
	}
}

func TestP20_2ReplyCutOff(t *testing.T) {
	for _, w := range replies() {
		b := unhex(w.hex)
		step := 1 + len(b)/1000
		for n := 0; n < len(b); n += step {
			wantNoReply(t, "cut off", b[:n], n)
		}
		wantNoReply(t, "without its last byte", b[:len(b)-1], len(b)-1)
		for _, n := range []int{1, 2, 3, 100} {
			wantNoReply(t, "too long", append(bytes.Clone(b), make([]byte, n)...), len(b))
			wantNoReply(t, "too long", append(bytes.Clone(b), bytes.Repeat([]byte{255}, n)...), len(b))
		}
	}
}

func TestP20_2ReplyFields(t *testing.T) {
	for _, c := range []struct {
		hex   string
		place int
	}{
		{"01 01 ff", 2},
		{"01 02 00 ff", 3},
		{"01 02 ff ff", 2},
		{"01 02 ff", 2},       // a number ahead of those that lack
		{"01 03 04 04", 3},    // likewise
		{"01 ff 01 00", 3},    // likewise
		{"01 03 04 05", 4},    // none is odd, and one lacks
		{"01 01 ff 00", 2},    // a number ahead of a byte too many
		{"01 02 04 04 00", 3}, // likewise
		{"01 02 04 03 05", 3},
		{"01 01 04 04", 3}, // what is too much is no number
		{"01 01 04 ff", 3},
		{"01 00 00", 2},
		{"01 00 ff", 2},
		{"01 ff", 2},
		{"05 00000000 aa", 1}, // the size ahead of a byte too many
		{"05 00020001", 1},    // the size ahead of the bytes that lack
		{"05 80000000", 1},
		{"05 ffffffff aa", 1},
		{"05 00020000", 5},
		{"05 00000001", 5},
		{"05 00000001 aabb", 6},
		{"02 00", 1}, {"03 00", 1}, {"04 00", 1}, {"06 00", 1}, {"07 00", 1}, {"07 0708", 1},
	} {
		wantNoReply(t, c.hex, unhex(c.hex), c.place)
	}
	all := []byte{1, 255}
	for _, n := range allNumbers() {
		all = append(all, byte(n))
	}
	wantReply(t, all, numbers(allNumbers()...))
	for i := 2; i < len(all); i++ {
		odd := bytes.Clone(all)
		odd[i] = 255
		wantNoReply(t, "a number that is none", odd, i)
	}
	over := append([]byte{5, 0, 2, 0, 1}, make([]byte, api.MaxFetch+1)...)
	wantNoReply(t, "too long a stretch", over, 1)
}
