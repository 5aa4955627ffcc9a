package piece_test

import (
	"bytes"
	"fmt"
	"math/rand/v2"
	"slices"
	"testing"

	"strongroom/api"
	"strongroom/piece"
	"strongroom/recipe"
	"strongroom/server"
	"strongroom/wire"
)

// TestP25_5Take: the blocks in any order, each handed out as it came; with the last one the piece is whole, not sooner.
func TestP25_5Take(t *testing.T) {
	for i, s := range append(fours(), four{1, 1, 1, 512}) {
		m := makeShare(s, s[1]/2, 400+i)
		for seed := range uint64(3) {
			p, orders := m.opened(t), rand.New(rand.NewPCG(seed, 25))
			order := orders.Perm(len(m.data))
			for n, j := range order {
				wantStage(t, p, api.StageOpen)
				wantTake(t, p, j, brought(m.data[j]), m.data[j], api.OK)
				wantHas(t, p, order[:n+1]...)
			}
			wantStage(t, p, api.StageWhole)
			wantTold(t, p, m)
		}
	}
}

// TestP25_5Again: a block may be taken again, which makes nothing whole, and of a whole piece nothing else.
func TestP25_5Again(t *testing.T) {
	m := makeShare(four{2, 4, 10, 45}, 3, 410)
	p := m.opened(t)
	for range 2 * len(m.data) {
		wantTake(t, p, 2, brought(m.data[2]), m.data[2], api.OK)
		wantStage(t, p, api.StageOpen)
		wantHas(t, p, 2)
	}
	for range 2 {
		for j, block := range m.data {
			wantTake(t, p, j, brought(block), block, api.OK)
		}
		wantStage(t, p, api.StageWhole)
		wantHas(t, p, upTo(len(m.data))...)
	}
}

// wantNoBlock: a reply is refused, and the piece is bad from then on, though it tells of its front still.
func wantNoBlock(t *testing.T, what string, p *piece.Piece, m made, segment int, reply []byte, e api.Errno) {
	t.Helper()
	t.Run(what, func(t *testing.T) {
		wantTake(t, p, segment, reply, nil, e)
		wantBad(t, p, m)
		wantTold(t, p, m)
	})
}

// TestP25_5NoAnswer: what is no reply to the fetch of a block, or brings no bytes, whether the block was taken ahead or not.
func TestP25_5NoAnswer(t *testing.T) {
	for i, s := range []four{{1, 1, 50, 60}, {1, 1, 33, 33}, {3, 5, 12, 100}, {1, 3, 1, 47}} {
		m := makeShare(s, s[1]-1, 420+i)
		last := len(m.data) - 1
		for _, j := range []int{0, last} {
			for what, reply := range noAnswers(m.data[j]) {
				wantNoBlock(t, fmt.Sprint(s, j, what), m.opened(t), m, j, reply, api.ErrAnswer)
				wantNoBlock(t, fmt.Sprint(s, j, what, ", again"), m.took(t, j), m, j, reply, api.ErrAnswer)
				wantNoBlock(t, fmt.Sprint(s, j, what, ", when it was whole"), m.took(t, upTo(len(m.data))...), m, j, reply, api.ErrAnswer)
			}
		}
		if n := m.four.blockLen(0); m.four.blockLen(last) != n {
			wantNoBlock(t, fmt.Sprint(s, " the last block, as long as the first"), m.opened(t), m, last, brought(m.data[0]), api.ErrAnswer)
			wantNoBlock(t, fmt.Sprint(s, " the first block, as long as the last"), m.opened(t), m, 0, brought(m.data[last]), api.ErrAnswer)
		}
		wantNoBlock(t, fmt.Sprint(s, " the front"), m.opened(t), m, 0, brought(m.front()), api.ErrAnswer)
	}
}

// TestP25_5EachByte: no bit of a block can be turned.
func TestP25_5EachByte(t *testing.T) {
	for i, s := range []four{{1, 1, 50, 60}, {1, 1, 33, 33}, {3, 5, 12, 100}} {
		m := makeShare(s, s[1]-1, 430+i)
		for j, block := range m.data {
			for bit := range 8 * len(block) {
				bent := bytes.Clone(block)
				bent[bit/8] ^= 1 << (bit % 8)
				p := m.opened(t)
				wantTake(t, p, j, brought(bent), nil, api.ErrBlock)
				wantStage(t, p, api.StageBad)
			}
		}
	}
}

// TestP25_5OtherBlock: the block of another segment, of another share, of nobody.
func TestP25_5OtherBlock(t *testing.T) {
	for i, s := range []four{{3, 5, 12, 100}, {2, 4, 10, 45}, {1, 1, 33, 66}} {
		m, other := makeShare(s, 0, 440+i), makeShare(s, 0, 540+i)
		for j, block := range m.data {
			for k, wrong := range slices.Concat(m.data, other.data, [][]byte{make([]byte, len(block))}) {
				if len(wrong) != len(block) || bytes.Equal(wrong, block) {
					continue
				}
				what := fmt.Sprint(s, j, k)
				wantNoBlock(t, what, m.opened(t), m, j, brought(wrong), api.ErrBlock)
				wantNoBlock(t, what+", again", m.took(t, j), m, j, brought(wrong), api.ErrBlock)
				wantNoBlock(t, what+", when it was whole", m.took(t, upTo(len(m.data))...), m, j, brought(wrong), api.ErrBlock)
			}
		}
	}
}

// TestP25_5Promised: what a block must be says the front that was taken, not the file: a leaf that is no digest of a block is never met.
func TestP25_5Promised(t *testing.T) {
	m := makeShare(four{1, 1, 50, 60}, 0, 450)
	untagged := m
	untagged.blocks = over([]api.Digest{tagged("segment", m.data[0]), m.blocks[2]})
	untagged.bind()
	wantNoBlock(t, "another tag", untagged.opened(t), untagged, 0, brought(m.data[0]), api.ErrBlock)
	wantTake(t, untagged.opened(t), 1, brought(m.data[1]), m.data[1], api.OK)
	twice := makeShare(four{1, 1, 33, 66}, 0, 451)
	twice.blocks = over([]api.Digest{twice.blocks[1], twice.blocks[1]})
	twice.bind()
	p := twice.opened(t)
	wantTake(t, p, 1, brought(twice.data[0]), twice.data[0], api.OK) // promised for both segments, and so taken for both
	wantStage(t, p, api.StageOpen)
	wantTake(t, p, 0, brought(twice.data[0]), twice.data[0], api.OK)
	wantStage(t, p, api.StageWhole)
}

// TestP25_6Told: Has, Ueb and Segment at all stages, for all segments and none.
func TestP25_6Told(t *testing.T) {
	for i, s := range fours() {
		m := makeShare(s, s[1]-1, 460+i)
		for _, station := range stations(t, m) {
			wantAt(t, m, station)
		}
		if t.Failed() {
			t.Fatal(s)
		}
	}
}

// asked fetches a stretch from a server, which is honest.
func asked(t *testing.T, s *server.Server, request []byte) []byte {
	t.Helper()
	q, _, e := wire.Request(request)
	if e != api.OK {
		t.Fatal(e)
	}
	r, e := s.Do(0, q)
	if e != api.OK {
		t.Fatal(e)
	}
	reply, e := wire.PutReply(r)
	if e != api.OK {
		t.Fatal(e)
	}
	return reply
}

// TestP25_7Whole: of a server that has the recipe's share and is honest a piece comes to be whole, and its blocks are the share's.
func TestP25_7Whole(t *testing.T) {
	for i, c := range []struct {
		size int
		p    api.Params
	}{
		{60, api.Params{K: 1, N: 1, Seg: 50}}, {33, api.Params{K: 1, N: 2, Seg: 65536}}, {100, api.Params{K: 3, N: 5, Seg: 10}}, {1000, api.Params{K: 3, N: 10, Seg: 64, Secret: []byte("s")}},
		{45, api.Params{K: 7, N: 9, Seg: 14}}, {5120, api.Params{K: 2, N: 3, Seg: 10}}, {200000, api.Params{K: 2, N: 4, Seg: 65536}}, {300, api.Params{K: 40, N: 60, Seg: 100}}, {1 << 20, api.Params{K: 1, N: 2, Seg: 65536}},
	} {
		file := make([]byte, c.size)
		for at := range file {
			file[at] = byte(at*at>>4 + at + i)
		}
		m, e := recipe.Make(file, c.p)
		if e != api.OK {
			t.Fatal(e)
		}
		s, _ := server.New(api.MaxRoom)
		for number, share := range m.Shares {
			s.Do(0, api.Request{Kind: api.ReqStore, Index: m.Verify.Index, Number: number, Lease: api.Lease{Who: 1, Until: 9}, Bytes: share})
		}
		for number, share := range m.Shares {
			wantWhole(t, s, m, number, share)
		}
	}
}

// wantWhole reads a share from an honest server, its last block first.
func wantWhole(t *testing.T, s *server.Server, m api.Made, number int, share []byte) {
	t.Helper()
	p := begun(t, m.Verify, number)
	q, _ := p.Front()
	wantOpen(t, p, asked(t, s, q), api.OK)
	wantUeb(t, p, m.Ueb, api.OK)
	var read []byte
	segs := (m.Ueb.Size + m.Ueb.Seg - 1) / m.Ueb.Seg
	for j := segs - 1; j >= 0; j-- {
		wantStage(t, p, api.StageOpen)
		q, _ := p.Want(j)
		block, e := p.Take(j, asked(t, s, q))
		if e != api.OK || !p.Has(j) {
			t.Fatalf("number %d, segment %d: %d", number, j, e)
		}
		read = append(block, read...)
	}
	wantStage(t, p, api.StageWhole)
	if len(read) == 0 || !bytes.Equal(read, share[len(share)-len(read):]) || len(read) != len(share)-frontOf(m) {
		t.Errorf("number %d: other blocks than the share's", number)
	}
}

// frontOf tells how many bytes the fronts of a file's shares have.
func frontOf(m api.Made) int {
	u := m.Ueb
	return four{u.K, u.N, u.Seg, u.Size}.frontLen()
}

// TestP25_8OneBlock: whatever two pieces of one capability and number are told, they hand out no unlike blocks, Uebs or digests.
func TestP25_8OneBlock(t *testing.T) {
	for i, s := range []four{{1, 1, 50, 60}, {3, 5, 12, 100}, {2, 4, 10, 45}} {
		m := makeShare(s, s[1]-1, 480+i)
		d := rand.New(rand.NewPCG(uint64(i), 8))
		handed := 0
		for range 400 {
			p := m.begun(t)
			front, others := m.front(), makeShare(s, s[1]-1, 480+d.IntN(6))
			if d.IntN(4) == 0 {
				front[d.IntN(len(front))] ^= 1 << d.IntN(8)
			}
			if d.IntN(4) == 0 {
				front = others.front()
			}
			if p.Open(brought(front)) != api.OK {
				continue
			}
			wantTold(t, p, m)
			for range len(m.data) {
				j := d.IntN(len(m.data))
				block := bytes.Clone([][]byte{m.data[j], others.data[j], m.data[d.IntN(len(m.data))]}[d.IntN(3)])
				if d.IntN(4) == 0 {
					block[d.IntN(len(block))] ^= 1 << d.IntN(8)
				}
				if b, e := p.Take(j, brought(block)); e == api.OK {
					handed++
					if !bytes.Equal(b, m.data[j]) {
						t.Fatalf("%v, segment %d: %x", s, j, b)
					}
				}
			}
			if u, e := p.Ueb(); u != m.ueb || e != api.OK {
				t.Fatalf("%+v, %d", u, e)
			}
		}
		if handed < 50 {
			t.Errorf("%v: only %d blocks were handed out", s, handed)
		}
	}
}

// TestP25_9Cover: all that a piece asks for, piece behind piece, is the share, and nothing twice.
func TestP25_9Cover(t *testing.T) {
	for i, s := range append(fours(), four{1, 1, 1, 512}, four{2, 4, 65536, 1 << 20}) {
		m := makeShare(s, s[1]-1, 490+i)
		p := m.begun(t)
		q, _ := p.Front()
		at, end := stretch(t, q, x, m.number)
		if at != 0 {
			t.Fatalf("%v: the front begins at %d", s, at)
		}
		wantOpen(t, p, brought(m.front()), api.OK)
		for j := range m.data {
			q, _ := p.Want(j)
			at, n := stretch(t, q, x, m.number)
			if at != end || n < 1 || n > api.MaxFetch {
				t.Fatalf("%v, segment %d: from %d on %d bytes behind %d", s, j, at, n, end)
			}
			end = at + n
		}
		if end != len(m.share()) || end != s.whole() {
			t.Errorf("%v: %d bytes are asked for of %d", s, end, len(m.share()))
		}
	}
}

// TestP25_9Hang: what is asked for hangs on the capability and the number alone, not on what came: pieces of two shares, of which one is no file's, ask for the same.
func TestP25_9Hang(t *testing.T) {
	for i, s := range fours()[:9] {
		a, b := makeShare(s, s[1]-1, 600+i), makeShare(s, s[1]-1, 700+i)
		p, q := a.begun(t), b.begun(t)
		front, _ := p.Front()
		wantFront(t, q, front, api.OK)
		p, q = a.opened(t), b.took(t, upTo(len(b.data))...)
		for j := len(a.data) - 1; j >= 0; j-- {
			want, _ := p.Want(j)
			wantWant(t, q, j, want, api.OK)
			p.Take(j, brought(a.data[j]))
			wantWant(t, p, j, want, api.OK)
		}
	}
}
