package piece_test

import (
	"math"
	"slices"
	"testing"

	"strongroom/api"
	"strongroom/piece"
)

func TestP25_1New(t *testing.T) {
	for _, s := range append(fours(), greatFours()...) {
		for _, number := range []int{0, s[1] / 2, s[1] - 1} {
			v := api.Verify{Index: x, Ueb: digest(9), K: s[0], N: s[1], Seg: s[2], Size: s[3]}
			p := begun(t, v, number)
			wantStage(t, p, api.StageFront)
			wantHas(t, p)
			wantNotTold(t, p, api.ErrOrder)
		}
	}
	if api.StageFront != 1 || api.StageOpen != 2 || api.StageWhole != 3 || api.StageBad != 4 {
		t.Error("the stages have other numbers")
	}
}

func wantNoPiece(t *testing.T, v api.Verify, number int, want api.Errno) {
	t.Helper()
	if p, e := piece.New(v, number); p != nil || e != want {
		t.Errorf("New of %+v, %d: %v, %d instead of %d", v, number, p, e, want)
	}
}

// TestP25_1NoShape: a capability without a shape is told ahead of a number.
func TestP25_1NoShape(t *testing.T) {
	bad := []four{
		{}, {3, 10, 64, 1000}, {0, 10, 66, 1000}, {11, 10, 66, 1000}, {3, 256, 66, 1000}, {256, 256, 256, 1000}, {3, 0, 66, 1000}, {3, 10, 0, 1000}, {3, 10, 65541, 1000}, {1, 1, 65537, 1000},
		{3, 10, 66, 32}, {3, 10, 66, 0}, {3, 10, 66, 1<<24 + 1}, {1, 1, 65536, 1<<24 + 1}, {1, 1, 1, 513}, {3, 5, 12, 6145}, {3, 5, 12, 1 << 24}, {3, 5, -12, 100}, {-3, 5, 12, 100}, {-3, 5, -12, -100},
	}
	for _, far := range odd() {
		bad = append(bad, four{far, 10, 66, 1000}, four{3, far, 66, 1000}, four{3, 10, 66, far})
		if far < 1 || far > 65536 {
			bad = append(bad, four{1, 10, far, 1000})
		}
	}
	for _, s := range bad {
		for _, number := range []int{0, 1, -1, 255, math.MinInt, math.MaxInt} {
			wantNoPiece(t, api.Verify{Index: x, Ueb: digest(1), K: s[0], N: s[1], Seg: s[2], Size: s[3]}, number, api.ErrCap)
		}
	}
}

func TestP25_1NoNumber(t *testing.T) {
	for _, s := range append(fours(), greatFours()...) {
		v := api.Verify{K: s[0], N: s[1], Seg: s[2], Size: s[3]}
		for _, number := range append(odd(), s[1], s[1]+1, 255, 256) {
			wantNoPiece(t, v, number, api.ErrArg)
		}
	}
}

// notMade are pieces that New did not make: a copy is none, at whichever stage it was made.
func notMade(t *testing.T) []*piece.Piece {
	m := makeShare(four{1, 1, 50, 60}, 0, 1)
	bad := m.opened(t)
	bad.Take(0, nil)
	first, open, whole, spoilt := *m.begun(t), *m.opened(t), *m.took(t, 0, 1), *bad
	return []*piece.Piece{nil, {}, &first, &open, &whole, &spoilt}
}

// TestP25_1NotMade: every call on such a piece tells ErrNil or nothing, whatever it is handed.
func TestP25_1NotMade(t *testing.T) {
	m := makeShare(four{1, 1, 50, 60}, 0, 1)
	for _, p := range notMade(t) {
		for range 2 {
			wantStage(t, p, 0)
			wantFront(t, p, nil, api.ErrNil)
			for _, reply := range [][]byte{nil, {repNone}, brought(m.front()), brought(m.data[0])} {
				wantOpen(t, p, reply, api.ErrNil)
				for _, j := range append(odd(), 0, 1, 2) {
					wantTake(t, p, j, reply, nil, api.ErrNil)
				}
			}
			for _, j := range append(odd(), 0, 1, 2) {
				wantWant(t, p, j, nil, api.ErrNil)
			}
			wantHas(t, p)
			wantNotTold(t, p, api.ErrNil)
		}
	}
}

// TestP25_1CopyChangesNothing: what a copy is handed changes nothing for the piece of which it is one.
func TestP25_1CopyChangesNothing(t *testing.T) {
	m := makeShare(four{1, 1, 50, 60}, 0, 1)
	p := m.took(t, 0)
	other := *p
	other.Take(1, brought(m.data[1]))
	other.Open(nil)
	wantStage(t, p, api.StageOpen)
	wantHas(t, p, 0)
	wantTold(t, p, m)
	wantTake(t, p, 1, brought(m.data[1]), m.data[1], api.OK)
	wantStage(t, p, api.StageWhole)
}

// TestP25_1Stages: the ways from one stage to the next.
func TestP25_1Stages(t *testing.T) {
	m := makeShare(four{3, 5, 12, 100}, 4, 1)
	p := m.begun(t)
	wantStage(t, p, api.StageFront)
	wantOpen(t, p, brought(m.front()), api.OK)
	wantStage(t, p, api.StageOpen)
	for j := range m.data {
		wantStage(t, p, api.StageOpen)
		p.Take(j, brought(m.data[j]))
	}
	wantStage(t, p, api.StageWhole)
	p.Take(3, brought(m.data[3]))
	wantStage(t, p, api.StageWhole)
	p.Take(3, brought(m.data[4]))
	wantStage(t, p, api.StageBad)
	p.Take(3, brought(m.data[3]))
	wantStage(t, p, api.StageBad)
}

func TestP25_2Front(t *testing.T) {
	for _, s := range append(fours(), greatFours()...) {
		for _, i := range []api.Index{x, {}, {15: 255}} {
			v := api.Verify{Index: i, Ueb: digest(4), K: s[0], N: s[1], Seg: s[2], Size: s[3]}
			p := begun(t, v, s[1]-1)
			for range 3 {
				wantFront(t, p, fetch(i, s[1]-1, 0, s.frontLen()), api.OK)
				wantStage(t, p, api.StageFront)
			}
		}
	}
}

func TestP25_4Want(t *testing.T) {
	for i, s := range append(fours(), four{1, 1, 1, 512}, four{255, 255, 65535, 1 << 20}) {
		m := makeShare(s, s[1]/2, 70+i)
		p := m.opened(t)
		wantAll := func() {
			for j := range m.data {
				at, n := s.place(j)
				wantWant(t, p, j, fetch(x, m.number, at, n), api.OK)
			}
			for _, j := range append(odd(), s.segs(), s.segs()+1, 512, 513) {
				if j < 0 || j >= s.segs() {
					wantWant(t, p, j, nil, api.ErrArg)
				}
			}
		}
		wantAll()
		wantStage(t, p, api.StageOpen)
		for j, block := range m.data {
			wantTake(t, p, j, brought(block), block, api.OK)
		}
		wantAll()
		wantStage(t, p, api.StageWhole)
	}
}

// at is a piece at a stage, and what each use of it must say there.
type at struct {
	what             string
	p                *piece.Piece
	stage            api.Stage
	open, take, tell api.Errno
	has              []int // the segments whose blocks were taken
}

// stations are pieces of a share at all stages, each reached in all ways.
func stations(t *testing.T, m made) []at {
	order, all := api.ErrOrder, upTo(len(m.data))
	end := len(m.data) - 1
	turned := slices.Clone(m.data[end])
	turned[0] ^= 1
	bent := m.front()
	bent[8] ^= 1
	silent, lied, half, whole, late := m.begun(t), m.begun(t), m.opened(t), m.took(t, all...), m.took(t, all[:end]...)
	silent.Open(nil)
	lied.Open(brought(bent))
	half.Take(end, []byte{repNone})
	whole.Take(end, brought(turned))
	late.Take(end, brought(turned))
	list := []at{
		{"a new one", m.begun(t), api.StageFront, api.OK, order, order, nil},
		{"an open one", m.opened(t), api.StageOpen, order, api.OK, api.OK, nil},
		{"a whole one", m.took(t, all...), api.StageWhole, order, api.OK, api.OK, all},
		{"bad by no front", silent, api.StageBad, order, order, order, nil},
		{"bad by a front", lied, api.StageBad, order, order, order, nil},
		{"bad by no block", half, api.StageBad, order, order, api.OK, nil},
		{"bad by the last block", late, api.StageBad, order, order, api.OK, nil},
		{"bad when it was whole", whole, api.StageBad, order, order, api.OK, nil},
	}
	if end > 0 {
		list = append(list, at{"one with a block", m.took(t, end), api.StageOpen, order, api.OK, api.OK, []int{end}})
	}
	return list
}

// wantAt holds all that a piece tells at its stage against what it must.
func wantAt(t *testing.T, m made, s at) {
	t.Helper()
	wantStage(t, s.p, s.stage)
	wantHas(t, s.p, s.has...)
	if s.tell == api.OK {
		wantTold(t, s.p, m)
	} else {
		wantNotTold(t, s.p, s.tell)
	}
	if s.open == api.OK {
		wantFront(t, s.p, fetch(x, m.number, 0, m.four.frontLen()), api.OK)
	} else {
		wantFront(t, s.p, nil, s.open)
	}
	for _, j := range []int{-1, 0, len(m.data) - 1, len(m.data)} {
		switch {
		case s.take != api.OK:
			wantWant(t, s.p, j, nil, s.take)
		case j < 0 || j == len(m.data):
			wantWant(t, s.p, j, nil, api.ErrArg)
		default:
			begin, n := m.four.place(j)
			wantWant(t, s.p, j, fetch(x, m.number, begin, n), api.OK)
		}
	}
}

// TestR2Refused: at each stage just those calls are refused that are not due, ErrOrder ahead of ErrArg and of whatever is wrong with a reply, and a refusal changes nothing.
func TestR2Refused(t *testing.T) {
	for _, shape := range []four{{1, 1, 50, 60}, {1, 1, 33, 33}, {3, 5, 12, 100}} {
		m := makeShare(shape, shape[1]-1, 3)
		for _, s := range stations(t, m) {
			wantAt(t, m, s)
			if s.open != api.OK {
				for _, reply := range append([][]byte{brought(m.front()), nil, {repNone}}, brought(m.front()[:9])) {
					wantOpen(t, s.p, reply, s.open)
				}
			}
			for _, j := range append(odd(), 0, 1, len(m.data)-1, len(m.data), 512) {
				for _, reply := range [][]byte{nil, {repNone}, brought(m.data[0]), brought(m.front())} {
					if s.take != api.OK {
						wantTake(t, s.p, j, reply, nil, s.take)
					} else if j < 0 || j >= len(m.data) {
						wantTake(t, s.p, j, reply, nil, api.ErrArg)
					}
				}
			}
			wantAt(t, m, s)
			if t.Failed() {
				t.Fatalf("%v: %s", shape, s.what)
			}
		}
	}
}

// TestExamples: the examples of the chapter.
func TestExamples(t *testing.T) {
	m := makeShare(four{1, 1, 50, 60}, 0, 5)
	u := len(uebBytes(m.ueb))
	none := []byte{repNone}

	p := m.begun(t)
	wantStage(t, p, api.StageFront)
	wantWant(t, p, 0, nil, api.ErrOrder)
	wantFront(t, p, fetch(x, 0, 0, 228+u), api.OK)
	wantOpen(t, p, none, api.ErrAnswer)
	wantStage(t, p, api.StageBad)
	wantFront(t, p, nil, api.ErrOrder)

	p = m.begun(t)
	wantOpen(t, p, brought(m.front()), api.OK)
	wantStage(t, p, api.StageOpen)
	wantOpen(t, p, brought(m.front()), api.ErrOrder)
	wantWant(t, p, 1, fetch(x, 0, 278+u, 10), api.OK)
	wantWant(t, p, 2, nil, api.ErrArg)

	wantTake(t, p, 1, brought(m.data[1]), m.data[1], api.OK)
	wantHas(t, p, 1)
	wantTake(t, p, 0, brought(make([]byte, 50)), nil, api.ErrBlock)
	wantStage(t, p, api.StageBad)
	wantHas(t, p)
	wantUeb(t, p, m.ueb, api.OK)

	bent := m.front()
	bent[100] ^= 4
	wantOpen(t, m.begun(t), brought(bent), api.ErrFront)

	wantNoPiece(t, api.Verify{K: 3, N: 10, Seg: 64, Size: 1000}, 0, api.ErrCap)
	wantNoPiece(t, m.verify(), 1, api.ErrArg)
}
