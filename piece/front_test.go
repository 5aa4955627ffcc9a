package piece_test

import (
	"bytes"
	"encoding/binary"
	"fmt"
	"slices"
	"testing"

	"strongroom/api"
)

// TestP25_3Open: a front that leads up to the digest in the capability validates, also if it is of no file, and of whichever number.
func TestP25_3Open(t *testing.T) {
	for i, s := range append(fours(), greatFours()...) {
		for _, number := range []int{0, s[1] / 2, s[1] - 1} {
			m := makeShare(s, number, 100+i)
			p := m.begun(t)
			wantOpen(t, p, brought(m.front()), api.OK)
			wantStage(t, p, api.StageOpen)
			wantHas(t, p)
			wantTold(t, p, m)
			wantOpen(t, p, brought(m.front()), api.ErrOrder)
			wantStage(t, p, api.StageOpen)
		}
	}
}

// wantFalse: a front is refused as one that does not validate, and the piece is bad from then on.
func wantFalse(t *testing.T, what string, v api.Verify, m made, front []byte) {
	t.Helper()
	t.Run(what, func(t *testing.T) {
		p := begun(t, v, m.number)
		wantOpen(t, p, brought(front), api.ErrFront)
		wantBad(t, p, m)
		wantNotTold(t, p, api.ErrOrder)
	})
}

// TestP25_3NoAnswer: what is no reply to the fetch, or brings no bytes.
func TestP25_3NoAnswer(t *testing.T) {
	for i, s := range fours()[:7] {
		m := makeShare(s, s[1]-1, 7+i)
		for what, reply := range noAnswers(m.front()) {
			t.Run(what, func(t *testing.T) {
				p := m.begun(t)
				wantOpen(t, p, reply, api.ErrAnswer)
				wantBad(t, p, m)
				wantNotTold(t, p, api.ErrOrder)
			})
		}
	}
}

// TestP25_3NoAnswerGoesAhead: of bytes of another number it is not asked whether they are a front; of as many, which are none, it is.
func TestP25_3NoAnswerGoesAhead(t *testing.T) {
	m := makeShare(four{2, 4, 10, 45}, 1, 8)
	for _, b := range [][]byte{m.share(), m.front()[:36], makeShare(four{1, 1, 50, 60}, 0, 1).front(), {1}} {
		wantOpen(t, m.begun(t), brought(b), api.ErrAnswer)
	}
	wantFalse(t, "noughts", m.verify(), m, make([]byte, m.four.frontLen()))
}

// TestP25_3EachByte: no byte of a front can be turned.
func TestP25_3EachByte(t *testing.T) {
	for i, s := range []four{{1, 1, 50, 60}, {1, 1, 33, 33}, {3, 5, 12, 100}, {2, 4, 10, 45}} {
		m := makeShare(s, s[1]-1, 20+i)
		for at := range m.front() {
			b := m.front()
			b[at] ^= 1 << (at % 8)
			p := m.begun(t)
			wantOpen(t, p, brought(b), api.ErrFront)
			wantStage(t, p, api.StageBad)
		}
	}
}

// TestP25_3Number: a front that is right but for the number in it, and the front of another number.
func TestP25_3Number(t *testing.T) {
	m := makeShare(four{2, 4, 10, 45}, 1, 30)
	for _, number := range []int{0, 2, 3} {
		b := m.front()
		binary.BigEndian.PutUint32(b[8:], uint32(number))
		wantFalse(t, fmt.Sprint("said to be ", number), m.verify(), m, b) // its chain leads up from the piece's number
		other := m
		other.number = number
		wantFalse(t, fmt.Sprint("asked for ", number), m.verify(), other, m.front()) // its chain leads up from its own
		wantFalse(t, fmt.Sprint("both of ", number), m.verify(), other, b)           // its chain leads up from neither
	}
}

// TestP25_3Digest: the Ueb must have the capability's digest, bit by bit.
func TestP25_3Digest(t *testing.T) {
	m := makeShare(four{1, 2, 40, 60}, 1, 31)
	for bit := range 256 {
		v := m.verify()
		v.Ueb[bit/8] ^= 1 << (bit % 8)
		p := begun(t, v, m.number)
		wantOpen(t, p, brought(m.front()), api.ErrFront)
		wantStage(t, p, api.StageBad)
	}
	for what, d := range map[string]api.Digest{"none": {}, "of other bytes": tagged("block", uebBytes(m.ueb)), "the share tree": m.ueb.Shares, "the segment tree": m.ueb.Segs} {
		v := m.verify()
		v.Ueb = d
		wantFalse(t, what, v, m, m.front())
	}
	v := m.verify()
	v.Index = api.Index{} // under which index it lies is not looked at
	wantOpen(t, begun(t, v, m.number), brought(m.front()), api.OK)
}

// TestP25_3Shape: a capability that has the digest of the Ueb, but not its K, N, Seg or Size: their fronts are equally long.
func TestP25_3Shape(t *testing.T) {
	for i, pair := range [][2]four{
		{{1, 4, 12, 47}, {2, 4, 12, 47}}, {{2, 3, 12, 47}, {2, 4, 12, 47}}, {{2, 4, 12, 47}, {2, 4, 14, 47}}, {{2, 4, 12, 47}, {2, 4, 12, 48}}, {{2, 4, 12, 40}, {2, 4, 12, 46}}, {{1, 5, 1, 33}, {1, 8, 1, 64}},
	} {
		if pair[0].frontLen() != pair[1].frontLen() {
			t.Fatal(pair, "another pair is wanted")
		}
		for _, p := range [][2]four{pair, {pair[1], pair[0]}} {
			m := makeShare(p[0], 2, 40+i)
			v := m.verify()
			wantOpen(t, begun(t, v, 2), brought(m.front()), api.OK)
			v.K, v.N, v.Seg, v.Size = p[1][0], p[1][1], p[1][2], p[1][3]
			wantFalse(t, fmt.Sprint(p), v, m, m.front())
		}
	}
}

// turned gives a list of digests with one of them turned.
func turned(list []api.Digest, at int) []api.Digest {
	out := slices.Clone(list)
	out[at][at%32] ^= 16
	return out
}

// TestP25_3BlockTree: the nodes of the block tree must be a tree, its pads too, whatever the root leads up to.
func TestP25_3BlockTree(t *testing.T) {
	for i, s := range []four{{1, 1, 33, 33}, {1, 3, 50, 60}, {3, 5, 12, 100}, {1, 2, 10, 45}} {
		good := makeShare(s, 0, 50+i)
		for at := range good.blocks {
			bent := good
			bent.blocks = turned(good.blocks, at)
			wantFalse(t, fmt.Sprint(s, at), good.verify(), good, bent.front())
			if at > 0 {
				continue
			}
			bent.bind() // now the root leads up, and nothing stands beneath it
			if len(good.blocks) > 1 {
				wantFalse(t, fmt.Sprint(s, "bound to another root"), bent.verify(), bent, bent.front())
			} else {
				wantOpen(t, bent.begun(t), brought(bent.front()), api.OK) // a leaf alone is whatever it is said to be
			}
		}
	}
}

// TestP25_3Pads: a tree over leaves, of which those that stand for none are other digests than they must be.
func TestP25_3Pads(t *testing.T) {
	for i, s := range []four{{3, 5, 12, 100}, {1, 1, 10, 45}, {1, 1, 20, 60}} {
		good := makeShare(s, 0, 60+i)
		width, n := widthOf(s.segs()), s.segs()
		for at := n; at < width; at++ {
			for what, d := range map[string]api.Digest{"nought": {}, "another pad": pad(at + 1), "a leaf again": good.blocks[width-1]} {
				blocks, segs := good, good
				row := slices.Clone(good.blocks[width-1:])
				row[at] = d
				blocks.blocks = over(row)
				blocks.bind()
				wantFalse(t, fmt.Sprint("block tree: ", at, ": ", what), blocks.verify(), blocks, blocks.front())
				row = slices.Clone(good.segs[width-1:])
				row[at] = d
				segs.segs = over(row)
				segs.bind()
				wantFalse(t, fmt.Sprint("segment tree: ", at, ": ", what), segs.verify(), segs, segs.front())
			}
		}
	}
}

// TestP25_3Chain: the tagged root of the blocks must lead up to the Ueb's Shares, by the chain, from the piece's number.
func TestP25_3Chain(t *testing.T) {
	for i, s := range []four{{1, 1, 50, 60}, {1, 2, 40, 60}, {2, 7, 10, 45}, {1, 255, 20, 200}} {
		good := makeShare(s, s[1]-1, 70+i)
		for at := range good.chain {
			bent := good
			bent.chain = turned(good.chain, at)
			wantFalse(t, fmt.Sprint(s, " chain ", at), good.verify(), good, bent.front())
		}
		root := good.blocks[0]
		once := tagged("root", root[:])
		lies := map[string]api.Digest{
			"nought":       {},
			"no tag":       climbed(good.number, root, good.chain),
			"another tag":  climbed(good.number, tagged("block", root[:]), good.chain),
			"tagged twice": climbed(good.number, tagged("root", once[:]), good.chain),
			"a leaf":       climbed(good.number, tagged("root", good.blocks[len(good.blocks)-1][:]), good.chain[:len(good.chain)/2]),
			"segments":     good.ueb.Segs,
		}
		if s[1] > 1 {
			lies["its neighbour's place"] = climbed(good.number^1, once, good.chain)
			backwards := slices.Clone(good.chain)
			slices.Reverse(backwards)
			lies["the chain from above"] = climbed(good.number, once, append(backwards, digest(1)))
		}
		for what, shares := range lies {
			bent := good
			bent.ueb.Shares = shares
			wantFalse(t, fmt.Sprint(s, ": ", what), bent.verify(), bent, bent.front())
		}
	}
}

// TestP25_3SegmentTree: the nodes over the segments must be a tree, and its root the Ueb's Segs.
func TestP25_3SegmentTree(t *testing.T) {
	for i, s := range []four{{1, 1, 33, 33}, {1, 3, 50, 60}, {3, 5, 12, 100}, {1, 2, 10, 45}} {
		good := makeShare(s, 0, 80+i)
		for at := range good.segs {
			bent := good
			bent.segs = turned(good.segs, at)
			wantFalse(t, fmt.Sprint(s, at), good.verify(), good, bent.front())
			if at == 0 && len(good.segs) > 1 {
				bent.bind() // now the root is the Ueb's, and nothing stands beneath it
				wantFalse(t, fmt.Sprint(s, "bound to another root"), bent.verify(), bent, bent.front())
			}
		}
		other := good
		other.segs = makeShare(s, 0, 90+i).segs
		wantFalse(t, fmt.Sprint(s, ": a tree of other leaves"), good.verify(), good, other.front())
		for what, d := range map[string]api.Digest{"nought": {}, "turned": turned(good.segs, 0)[0], "the last leaf, turned": turned(good.segs, len(good.segs)-1)[len(good.segs)-1], "the share tree": good.ueb.Shares, "tagged": tagged("root", good.segs[0][:])} {
			bent := good
			bent.ueb.Segs = d
			wantFalse(t, fmt.Sprint(s, ": ", what), bent.verify(), bent, bent.front())
		}
	}
}

// TestP25_3Exchanged: the two trees are not taken for one another.
func TestP25_3Exchanged(t *testing.T) {
	good := makeShare(four{1, 1, 50, 60}, 0, 95)
	bent := good
	bent.blocks, bent.segs = good.segs, good.blocks
	wantFalse(t, "exchanged", good.verify(), good, bent.front())
	bent.bind() // the Ueb of such a share, though, is as good as any
	wantOpen(t, bent.begun(t), brought(bent.front()), api.OK)
}

// TestP25_3NoFront: bytes that are no front of a share, and end where it must.
func TestP25_3NoFront(t *testing.T) {
	m := makeShare(four{3, 5, 12, 100}, 2, 96)
	for at := range 9 {
		for _, word := range []uint32{0, 1, 35, 37, 255, 1 << 31, 1<<32 - 1} {
			b := m.front()
			if binary.BigEndian.Uint32(b[4*at:]) != word {
				binary.BigEndian.PutUint32(b[4*at:], word)
				wantFalse(t, fmt.Sprint("the word at ", 4*at), m.verify(), m, b)
			}
		}
	}
	b := bytes.Replace(m.front(), []byte("1:k,1:3,"), []byte("1:k,1:03"), 1)
	wantFalse(t, "a Ueb in no form", m.verify(), m, b)
	wantFalse(t, "what stands from the second byte on", m.verify(), m, append(m.front()[1:], 0))
	wantFalse(t, "the end of the share", m.verify(), m, m.share()[len(m.share())-m.four.frontLen():])
}

// TestP25_3ForgedUeb: a forger's own share, of the same shape and number, which leads up to his own Ueb.
func TestP25_3ForgedUeb(t *testing.T) {
	for i, s := range fours()[:8] {
		good, forged := makeShare(s, s[1]-1, 200+i), makeShare(s, s[1]-1, 300+i)
		wantOpen(t, forged.begun(t), brought(forged.front()), api.OK)
		wantFalse(t, fmt.Sprint(s), good.verify(), good, forged.front())
		forged.ueb = good.ueb // with the right Ueb nothing of his leads up to it
		wantFalse(t, fmt.Sprint(s, " with the right Ueb"), good.verify(), good, forged.front())
		forged.segs = good.segs
		wantFalse(t, fmt.Sprint(s, " with the right segments"), good.verify(), good, forged.front())
		if forged = good; s[1] > 1 {
			forged.chain = makeShare(s, s[1]-1, 300+i).chain
			wantFalse(t, fmt.Sprint(s, " with another chain"), good.verify(), good, forged.front())
		}
	}
}
