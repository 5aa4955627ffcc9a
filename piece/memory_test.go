package piece_test

import (
	"bytes"
	"testing"

	"strongroom/api"
)

// roomy gives a list with spare room, and tells later whether it or its room was changed.
func roomy(list []byte) ([]byte, func() bool) {
	whole := append(bytes.Clone(list), 201, 202, 203, 204, 205, 206, 207, 208)
	before := bytes.Clone(whole)
	return whole[:len(list)], func() bool { return !bytes.Equal(whole, before) }
}

// spoil overwrites a list and its spare room.
func spoil(b []byte) {
	b = b[:cap(b)]
	for i := range b {
		b[i] ^= 0x5a
	}
}

// TestR3Open: a reply stays as it is, and no part of it is kept, whether it is taken or refused.
func TestR3Open(t *testing.T) {
	m := makeShare(four{3, 5, 12, 100}, 2, 800)
	reply, changed := roomy(brought(m.front()))
	p := m.begun(t)
	wantOpen(t, p, reply, api.OK)
	if changed() {
		t.Error("the reply was changed")
	}
	spoil(reply)
	wantTold(t, p, m)
	for j, block := range m.data {
		wantTake(t, p, j, brought(block), block, api.OK)
	}
	for what, b := range noAnswers(m.front()) {
		reply, changed := roomy(b)
		if wantOpen(t, m.begun(t), reply, api.ErrAnswer); changed() {
			t.Errorf("%s: the reply was changed", what)
		}
	}
	bent := m.front()
	bent[200] ^= 1
	reply, changed = roomy(brought(bent))
	if wantOpen(t, m.begun(t), reply, api.ErrFront); changed() {
		t.Error("a reply that was refused was changed")
	}
	if wantOpen(t, p, reply, api.ErrOrder); changed() {
		t.Error("a reply that was not due was changed")
	}
}

// TestR3Take: likewise, and a block has no part in the reply, nor in another block.
func TestR3Take(t *testing.T) {
	m := makeShare(four{3, 5, 12, 100}, 2, 801)
	p := m.opened(t)
	for j, want := range m.data {
		reply, changed := roomy(brought(want))
		a, e := p.Take(j, reply)
		b, g := p.Take(j, reply)
		if e != api.OK || g != api.OK || changed() {
			t.Errorf("segment %d: %d, %d, or the reply was changed", j, e, g)
		}
		spoil(a)
		if changed() || !bytes.Equal(b, want) {
			t.Errorf("segment %d: an answer has a part in the reply or in another answer", j)
		}
		spoil(reply)
		if !bytes.Equal(b, want) || !p.Has(j) {
			t.Errorf("segment %d: an answer has a part in the reply", j)
		}
		spoil(b)
		wantTake(t, p, j, brought(want), want, api.OK)
	}
	wantTold(t, p, m)
	wantStage(t, p, api.StageWhole)
	for _, e := range []api.Errno{api.ErrArg, api.ErrBlock, api.ErrOrder} {
		reply, changed := roomy(brought(make([]byte, 4)))
		j := 0
		if e == api.ErrArg {
			j = 99
		}
		if wantTake(t, p, j, reply, nil, e); changed() {
			t.Errorf("error %d: the reply was changed", e)
		}
	}
}

// TestR3Requests: what is to be asked is memory of its own, each time.
func TestR3Requests(t *testing.T) {
	m := makeShare(four{2, 4, 10, 45}, 1, 802)
	p := m.begun(t)
	want := fetch(x, 1, 0, m.four.frontLen())
	a, _ := p.Front()
	b, _ := p.Front()
	spoil(a)
	if !bytes.Equal(b, want) {
		t.Error("two answers have a part in common")
	}
	wantFront(t, p, want, api.OK)
	p = m.opened(t)
	for j := range m.data {
		at, n := m.four.place(j)
		want := fetch(x, 1, at, n)
		a, _ := p.Want(j)
		b, _ := p.Want(j)
		spoil(a)
		if !bytes.Equal(b, want) {
			t.Errorf("segment %d: two answers have a part in common", j)
		}
		wantWant(t, p, j, want, api.OK)
	}
}

// TestR3TwoPieces: what one piece is handed is nothing to another one of the same share.
func TestR3TwoPieces(t *testing.T) {
	m := makeShare(four{2, 4, 10, 45}, 1, 803)
	reply := brought(m.front())
	p, q, r := m.begun(t), m.begun(t), m.begun(t)
	wantOpen(t, p, reply, api.OK)
	wantOpen(t, q, reply, api.OK)
	wantTake(t, p, 1, brought(m.data[1]), m.data[1], api.OK)
	wantHas(t, q)
	wantStage(t, r, api.StageFront)
	wantTake(t, p, 0, nil, nil, api.ErrAnswer)
	wantStage(t, q, api.StageOpen)
	wantTake(t, q, 0, brought(m.data[0]), m.data[0], api.OK)
	wantHas(t, q, 0)
	wantHas(t, p)
}
