package piece_test

import (
	"bytes"
	"encoding/binary"
	"math/rand/v2"
	"slices"
	"testing"

	"strongroom/api"
	"strongroom/piece"
)

// model is a piece by the chapter's words: it keeps the front that was taken as the bytes that came.
type model struct {
	four   four
	number int
	ueb    api.Digest
	stage  api.Stage
	front  []byte
	taken  []int
}

// body gives the bytes that a reply brings, if they are as many as were asked for.
func body(reply []byte, n int) ([]byte, bool) {
	if len(reply) != 5+n || !bytes.Equal(reply[:5], brought(make([]byte, n))[:5]) {
		return nil, false
	}
	return reply[5:], true
}

// parts gives the Ueb that stands in a front of the right length, and its lists of digests.
func (r *model) parts(b []byte) (u api.Ueb, chain, blocks, segs []api.Digest) {
	u = api.Ueb{K: r.four[0], N: r.four[1], Seg: r.four[2], Size: r.four[3]}
	end := 36 + len(uebBytes(u))
	const name = "8:segments,32:"
	if at := bytes.Index(b[36:end], []byte(name)); at >= 0 && at+len(name)+77 <= end-36 {
		at += 36 + len(name)
		u.Segs = api.Digest(b[at:])
		u.Shares = api.Digest(b[at+45:])
	}
	take := func(n int) (list []api.Digest) {
		for range n / 32 {
			list = append(list, api.Digest(b[end:]))
			end += 32
		}
		return list
	}
	return u, take(r.four.chainLen()), take(r.four.treeLen()), take(r.four.treeLen())
}

// leaves gives the leaves of nodes, if these are a tree over as many as there are segments.
func (r *model) leaves(nodes []api.Digest) ([]api.Digest, bool) {
	list := nodes[len(nodes)/2:][:r.four.segs()]
	return list, slices.Equal(nodes, over(padded(list)))
}

func (r *model) validates(b []byte) bool {
	u, chain, blocks, segs := r.parts(b)
	end := 36 + len(uebBytes(u))
	at := []int{0x524f4f4d, 1, r.number, 36, end, end + 32*len(chain), end + 32*len(chain) + r.four.treeLen(), len(b), r.four.whole()}
	for i, word := range at {
		if int(binary.BigEndian.Uint32(b[4*i:])) != word {
			return false
		}
	}
	_, sound := r.leaves(blocks)
	_, tree := r.leaves(segs)
	root := climbed(r.number, tagged("root", blocks[0][:]), chain)
	return bytes.Equal(b[36:end], uebBytes(u)) && tagged("ueb", b[36:end]) == r.ueb && sound && tree && root == u.Shares && segs[0] == u.Segs
}

func (r *model) Open(reply []byte) api.Errno {
	if r.stage != api.StageFront {
		return api.ErrOrder
	}
	b, is := body(reply, r.four.frontLen())
	r.stage = api.StageBad
	if !is {
		return api.ErrAnswer
	}
	if !r.validates(b) {
		return api.ErrFront
	}
	r.stage, r.front = api.StageOpen, bytes.Clone(b)
	return api.OK
}

func (r *model) due(segment int) api.Errno {
	if r.stage != api.StageOpen && r.stage != api.StageWhole {
		return api.ErrOrder
	}
	if segment < 0 || segment >= r.four.segs() {
		return api.ErrArg
	}
	return api.OK
}

func (r *model) Take(segment int, reply []byte) ([]byte, api.Errno) {
	if e := r.due(segment); e != api.OK {
		return nil, e
	}
	b, is := body(reply, r.four.blockLen(segment))
	if !is {
		r.stage = api.StageBad
		return nil, api.ErrAnswer
	}
	_, _, blocks, _ := r.parts(r.front)
	if leaves, _ := r.leaves(blocks); tagged("block", b) != leaves[segment] {
		r.stage = api.StageBad
		return nil, api.ErrBlock
	}
	if !slices.Contains(r.taken, segment) {
		r.taken = append(r.taken, segment)
	}
	if len(r.taken) == r.four.segs() {
		r.stage = api.StageWhole
	}
	return b, api.OK
}

// wantAlike holds all that a piece tells against the model.
func (r *model) wantAlike(t *testing.T, p *piece.Piece) {
	t.Helper()
	wantStage(t, p, r.stage)
	if r.stage == api.StageFront {
		wantFront(t, p, fetch(x, r.number, 0, r.four.frontLen()), api.OK)
	} else {
		wantFront(t, p, nil, api.ErrOrder)
	}
	u, told, tells := api.Ueb{}, []api.Digest(nil), api.ErrOrder
	if r.front != nil {
		var segs []api.Digest
		u, _, _, segs = r.parts(r.front)
		told, _ = r.leaves(segs)
		tells = api.OK
	}
	wantUeb(t, p, u, tells)
	for j := -1; j <= r.four.segs(); j++ {
		if e := r.due(j); e == api.OK {
			at, n := r.four.place(j)
			wantWant(t, p, j, fetch(x, r.number, at, n), api.OK)
		} else {
			wantWant(t, p, j, nil, e)
		}
		d, e := api.Digest{}, tells
		if tells == api.OK && (j < 0 || j == r.four.segs()) {
			e = api.ErrArg
		} else if tells == api.OK {
			d = told[j]
		}
		wantSegment(t, p, j, d, e)
		if p.Has(j) != (r.stage != api.StageBad && slices.Contains(r.taken, j)) {
			t.Errorf("Has of %d: %v", j, p.Has(j))
		}
	}
}

// draw draws things by a fixed seed.
type draw struct{ *rand.Rand }

// often says yes all but once in n times.
func (d draw) often(n int) bool { return d.IntN(n) > 0 }

// digestOf gives some digest: one of a list, or one that looks like no rule.
func (d draw) digestOf(list []api.Digest) api.Digest {
	if d.often(3) {
		return list[d.IntN(len(list))]
	}
	return digest(d.IntN(1000))
}

// share draws a share of a shape: mostly one of which all leads up to its Ueb, else one that is at fault somewhere.
func (d draw) share(s four) made {
	m := makeShare(s, d.IntN(s[1]), d.IntN(1000))
	all := slices.Concat(m.chain, m.blocks, m.segs)
	for !d.often(4) {
		tree := [][]api.Digest{m.blocks, m.segs}[d.IntN(2)]
		switch d.IntN(6) {
		case 0:
			tree[d.IntN(len(tree))] = d.digestOf(all)
		case 1: // a tree it stays, though of other leaves, or with other pads
			row := tree[len(tree)/2:]
			row[d.IntN(len(row))] = d.digestOf(all)
			copy(tree, over(row))
		case 2:
			if len(m.chain) > 0 {
				m.chain[d.IntN(len(m.chain))] = d.digestOf(all)
			}
		case 3:
			m.ueb.Shares = d.digestOf(all)
		case 4:
			m.ueb.Segs = d.digestOf(all)
		case 5:
			m.bind()
		}
	}
	return m
}

// reply draws a reply, in which often bytes are brought, and often just these.
func (d draw) reply(b []byte) []byte {
	b = bytes.Clone(b)
	if !d.often(12) {
		b[d.IntN(len(b))] ^= 1 << d.IntN(8)
	}
	if d.often(14) {
		return brought(b)
	}
	list := noAnswers(b)
	list["any"] = b[:d.IntN(len(b)+1)]
	var names []string
	for name := range list {
		names = append(names, name)
	}
	slices.Sort(names)
	return list[names[d.IntN(len(names))]]
}

// TestR1Model: pieces of all kinds of shares, handed all kinds of replies in all orders, tell at each step what the chapter's words say, and never panic.
func TestR1Model(t *testing.T) {
	stages := map[api.Stage]int{}
	errors := map[api.Errno]int{}
	shapes := []four{{1, 1, 50, 60}, {1, 1, 33, 33}, {1, 2, 40, 60}, {3, 5, 12, 100}, {2, 4, 10, 45}, {7, 9, 14, 45}}
	for seed := range uint64(1500) {
		d := draw{rand.New(rand.NewPCG(seed, 25))}
		s := shapes[d.IntN(len(shapes))]
		m := d.share(s)
		other := d.share(s)
		v := m.verify()
		p := begun(t, v, m.number)
		r := &model{four: s, number: m.number, ueb: v.Ueb, stage: api.StageFront}
		for range 4 + d.IntN(30) {
			from := m
			if !d.often(15) {
				from = other
			}
			if !d.often(3) || r.stage == api.StageFront {
				reply := d.reply(from.front())
				e := r.Open(reply)
				wantOpen(t, p, reply, e)
				errors[e]++
			} else {
				j := d.IntN(s.segs())
				reply := d.reply(from.data[j])
				if !d.often(10) {
					j = d.IntN(s.segs()+4) - 2
				}
				want, e := r.Take(j, reply)
				wantTake(t, p, j, reply, want, e)
				errors[e]++
			}
			stages[r.stage]++
			r.wantAlike(t, p)
			if t.Failed() {
				t.Fatalf("seed %d, %v", seed, s)
			}
		}
	}
	for _, s := range []api.Stage{api.StageOpen, api.StageWhole, api.StageBad} {
		if stages[s] < 100 {
			t.Errorf("stage %d: %d times alone", s, stages[s])
		}
	}
	for _, e := range []api.Errno{api.OK, api.ErrFront, api.ErrBlock, api.ErrAnswer, api.ErrOrder, api.ErrArg} {
		if errors[e] < 100 {
			t.Errorf("error %d: %d times alone", e, errors[e])
		}
	}
}
