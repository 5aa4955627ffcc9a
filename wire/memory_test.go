package wire_test

import (
	"bytes"
	"slices"
	"testing"

	"strongroom/api"
	"strongroom/wire"
)

// roomy gives a list with spare room, and a function that tells whether the list or its room was changed.
func roomy(list []byte) ([]byte, func() bool) {
	whole := append(bytes.Clone(list), 201, 202, 203, 204, 205, 206, 207, 208)
	before := bytes.Clone(whole)
	return whole[:len(list)], func() bool { return !bytes.Equal(whole, before) }
}

// spoil overwrites a list and its spare room.
func spoil(b []byte) {
	b = b[:cap(b)]
	for i := range b {
		b[i] = 238
	}
}

func spoilNumbers(l []int) {
	l = l[:cap(l)]
	for i := range l {
		l[i] = 238
	}
}

func TestR3PutRequest(t *testing.T) {
	share, changed := roomy([]byte{1, 2, 3})
	q := store(x, 3, 1, 5)
	q.Bytes = share
	a, _ := wire.PutRequest(q)
	b, _ := wire.PutRequest(q)
	want := bytes.Clone(a)
	spoil(a)
	if changed() || !bytes.Equal(b, want) {
		t.Error("an answer has a part in the argument or in another answer")
	}
	spoil(share)
	if !bytes.Equal(b, want) {
		t.Error("an answer has a part in the argument")
	}
	q.Kind = api.ReqHave
	spoiled := bytes.Clone(share)
	if _, e := wire.PutRequest(q); e != api.ErrRequest || !bytes.Equal(share, spoiled) {
		t.Error("a refusal changed its argument")
	}
}

func TestR3Request(t *testing.T) {
	for _, w := range requests() {
		b, changed := roomy(unhex(w.hex))
		q, _, _ := wire.Request(b)
		other, _, _ := wire.Request(b)
		spoil(q.Bytes)
		if changed() || !sameRequest(other, w.request) {
			t.Errorf("%s: an answer has a part in the argument or in another answer", w.hex[:2])
		}
		spoil(b)
		if !sameRequest(other, w.request) {
			t.Errorf("%s: an answer has a part in the argument", w.hex[:2])
		}
	}
	for _, h := range []string{"09", "02" + xHex + "ff 00000000 0000000000000000 00000001 aa", "01" + xHex + "00"} {
		b, changed := roomy(unhex(h))
		if _, _, e := wire.Request(b); e != api.ErrRequest || changed() {
			t.Errorf("%s: a refusal changed its argument", h)
		}
	}
}

func TestR3PutReply(t *testing.T) {
	stretch, changed := roomy([]byte{1, 2, 3})
	list := append([]int{4, 5}, 201, 202, 203)
	for _, r := range []api.Reply{some(stretch...), numbers(list[:2]...)} {
		a, _ := wire.PutReply(r)
		b, _ := wire.PutReply(r)
		want := bytes.Clone(a)
		spoil(a)
		if changed() || !slices.Equal(list, []int{4, 5, 201, 202, 203}) || !bytes.Equal(b, want) {
			t.Errorf("kind %d: an answer has a part in the argument or in another answer", r.Kind)
		}
		held := bytes.Clone(b)
		r.Bytes, r.Numbers = bytes.Clone(r.Bytes), slices.Clone(r.Numbers)
		c, _ := wire.PutReply(r)
		spoil(r.Bytes)
		spoilNumbers(r.Numbers)
		if !bytes.Equal(c, held) {
			t.Errorf("kind %d: an answer has a part in the argument", r.Kind)
		}
	}
}

func TestR3Reply(t *testing.T) {
	for _, w := range replies() {
		b, changed := roomy(unhex(w.hex))
		r, _, _ := wire.Reply(b)
		other, _, _ := wire.Reply(b)
		spoil(r.Bytes)
		spoilNumbers(r.Numbers)
		if changed() || !sameReply(other, w.reply) {
			t.Errorf("kind %d: an answer has a part in the argument or in another answer", w.reply.Kind)
		}
		spoil(b)
		if !sameReply(other, w.reply) {
			t.Errorf("kind %d: an answer has a part in the argument", w.reply.Kind)
		}
	}
}

func TestR3Fits(t *testing.T) {
	share, changed := roomy([]byte{1, 2, 3})
	stretch, turned := roomy([]byte{1, 2})
	list := []int{4, 5, 201, 202}
	q := store(x, 3, 1, 5)
	q.Bytes = share
	got := []bool{wire.Fits(q, only(api.RepStored)), wire.Fits(have(x), numbers(list[:2]...)), wire.Fits(fetch(x, 0, 0, 2), some(stretch...))}
	if !slices.Equal(got, []bool{true, true, true}) || changed() || turned() || !slices.Equal(list, []int{4, 5, 201, 202}) {
		t.Errorf("%v, or an argument was changed", got)
	}
}
