package piece_test

import (
	"bytes"
	"crypto/sha256"
	"encoding/binary"
	"math"
	"slices"
	"strconv"
	"testing"

	"strongroom/api"
	"strongroom/piece"
)

var x = api.Index{7, 1, 255, 0, 3}

// The replies without anything behind their kind.
const (
	repStored  = 2
	repFull    = 3
	repOther   = 4
	repNone    = 6
	repRefused = 7
)

// tagged gives a tagged digest by the library, as DOC.md says it.
func tagged(word string, parts ...[]byte) api.Digest {
	var b []byte
	for _, part := range append([][]byte{[]byte("strongroom " + word)}, parts...) {
		b = append(binary.BigEndian.AppendUint64(b, uint64(len(part))), part...)
	}
	return sha256.Sum256(b)
}

func node(left, right api.Digest) api.Digest { return tagged("node", left[:], right[:]) }

func pad(leaf int) api.Digest {
	return tagged("pad", binary.BigEndian.AppendUint32(nil, uint32(leaf)))
}

// digest gives a digest that looks like no rule.
func digest(seed int) api.Digest { return sha256.Sum256([]byte(strconv.Itoa(seed))) }

// widthOf gives the least power of two that is not below a number.
func widthOf(n int) int {
	w := 1
	for w < n {
		w *= 2
	}
	return w
}

// padded gives leaves and behind them those that stand for none.
func padded(leaves []api.Digest) []api.Digest {
	out := slices.Clone(leaves)
	for i := len(leaves); i < widthOf(len(leaves)); i++ {
		out = append(out, pad(i))
	}
	return out
}

// over gives the nodes over a row of leaves, which must be a power of two, from number 1 on.
func over(row []api.Digest) []api.Digest {
	var nodes []api.Digest
	for {
		nodes = append(slices.Clone(row), nodes...)
		if len(row) == 1 {
			return nodes
		}
		var up []api.Digest
		for i := 0; i < len(row); i += 2 {
			up = append(up, node(row[i], row[i+1]))
		}
		row = up
	}
}

// climbed gives the root to which a leaf and its chain lead.
func climbed(leaf int, d api.Digest, chain []api.Digest) api.Digest {
	for _, beside := range chain {
		if leaf%2 == 0 {
			d = node(d, beside)
		} else {
			d = node(beside, d)
		}
		leaf /= 2
	}
	return d
}

// four are K, N, Seg and Size of a shape.
type four [4]int

func (s four) segs() int { return (s[3] + s[2] - 1) / s[2] }

// blockLen tells how many bytes the block of a segment has.
func (s four) blockLen(j int) int {
	if n := s[3] - j*s[2]; n < s[2] {
		return (n + s[0] - 1) / s[0]
	}
	return s[2] / s[0]
}

// treeLen tells how many bytes the nodes over the segments have.
func (s four) treeLen() int { return 32 * (2*widthOf(s.segs()) - 1) }

// chainLen tells how many bytes a share's chain has.
func (s four) chainLen() int {
	n := 0
	for w := widthOf(s[1]); w > 1; w /= 2 {
		n += 32
	}
	return n
}

// frontLen tells how many bytes a front has.
func (s four) frontLen() int {
	return 36 + len(uebBytes(api.Ueb{K: s[0], N: s[1], Seg: s[2], Size: s[3]})) + s.chainLen() + 2*s.treeLen()
}

// place tells where the block of a segment begins, and how many bytes it has.
func (s four) place(j int) (int, int) {
	at := s.frontLen()
	for i := range j {
		at += s.blockLen(i)
	}
	return at, s.blockLen(j)
}

// whole tells how many bytes a share has.
func (s four) whole() int {
	at, n := s.place(s.segs() - 1)
	return at + n
}

// fours are shapes at their edges and between.
func fours() []four {
	return []four{
		{1, 1, 50, 60}, {1, 1, 33, 33}, {1, 2, 40, 60}, {3, 5, 12, 100}, {3, 10, 66, 1000}, {2, 4, 10, 45}, {2, 2, 100, 33}, {3, 3, 300, 34},
		{255, 255, 255, 300}, {1, 255, 20, 200}, {4, 129, 40, 333}, {4, 128, 40, 333}, {7, 9, 14, 45}, {2, 3, 34, 1054}, {1, 3, 1, 47},
	}
}

// greatFours are shapes that are great in one of their numbers or in several.
func greatFours() []four {
	return []four{{1, 1, 1, 512}, {1, 255, 32768, 1 << 24}, {1, 255, 65536, 1 << 24}, {1, 1, 65536, 65536}, {255, 255, 65535, 1 << 24}, {255, 255, 65790, 1 << 24}, {5, 7, 5, 2560}, {2, 255, 32768, 1<<24 - 1}}
}

// uebBytes puts a Ueb's bytes together by the words of chapter 13.
func uebBytes(u api.Ueb) []byte {
	var b []byte
	row := func(name, value string) {
		b = append(b, strconv.Itoa(len(name))+":"+name+","+strconv.Itoa(len(value))+":"+value+","...)
	}
	row("k", strconv.Itoa(u.K))
	row("n", strconv.Itoa(u.N))
	row("seg", strconv.Itoa(u.Seg))
	row("segments", string(u.Segs[:]))
	row("shares", string(u.Shares[:]))
	row("size", strconv.Itoa(u.Size))
	return b
}

// made is a share as anybody may make one, of a file or not.
type made struct {
	four   four
	number int
	ueb    api.Ueb
	chain  []api.Digest
	blocks []api.Digest
	segs   []api.Digest
	data   [][]byte
}

// makeShare gives a share of which all leads up to its Ueb, though it is of no file.
func makeShare(s four, number, seed int) made {
	m := made{four: s, number: number}
	var blocks, segs []api.Digest
	for j := range s.segs() {
		block := bytes.Repeat([]byte{byte(seed + 3*j), byte(seed >> 8), byte(j >> 5), 9}, s.blockLen(j))[:s.blockLen(j)]
		m.data = append(m.data, block)
		blocks = append(blocks, tagged("block", block))
		segs = append(segs, digest(1000*seed+j))
	}
	m.blocks, m.segs = over(padded(blocks)), over(padded(segs))
	for i := range s.chainLen() / 32 {
		m.chain = append(m.chain, digest(1000*seed-1-i))
	}
	m.bind()
	return m
}

// bind makes the Ueb anew of the roots to which the share leads.
func (m *made) bind() {
	m.ueb = api.Ueb{K: m.four[0], N: m.four[1], Seg: m.four[2], Size: m.four[3], Segs: m.segs[0]}
	m.ueb.Shares = climbed(m.number, tagged("root", m.blocks[0][:]), m.chain)
}

// verify gives the capability that speaks of the share's Ueb.
func (m made) verify() api.Verify {
	u := m.ueb
	return api.Verify{Index: x, Ueb: tagged("ueb", uebBytes(u)), K: u.K, N: u.N, Seg: u.Seg, Size: u.Size}
}

// front gives the bytes of the share's front, by the table of chapter 14.
func (m made) front() []byte {
	u := uebBytes(m.ueb)
	at := 36
	words := []int{0x524f4f4d, 1, m.number, at}
	for _, n := range []int{len(u), 32 * len(m.chain), 32 * len(m.blocks), 32 * len(m.segs), len(slices.Concat(m.data...))} {
		at += n
		words = append(words, at)
	}
	var b []byte
	for _, w := range words {
		b = binary.BigEndian.AppendUint32(b, uint32(w))
	}
	b = append(b, u...)
	for _, d := range slices.Concat(m.chain, m.blocks, m.segs) {
		b = append(b, d[:]...)
	}
	return b
}

// share gives the bytes of all of it.
func (m made) share() []byte { return append(m.front(), slices.Concat(m.data...)...) }

// begun gives a piece of that share.
func (m made) begun(t *testing.T) *piece.Piece {
	t.Helper()
	return begun(t, m.verify(), m.number)
}

// opened gives a piece whose front was taken.
func (m made) opened(t *testing.T) *piece.Piece {
	t.Helper()
	p := m.begun(t)
	wantOpen(t, p, brought(m.front()), api.OK)
	return p
}

// took gives a piece whose front and some of whose blocks were taken.
func (m made) took(t *testing.T, segments ...int) *piece.Piece {
	t.Helper()
	p := m.opened(t)
	for _, j := range segments {
		wantTake(t, p, j, brought(m.data[j]), m.data[j], api.OK)
	}
	return p
}

func begun(t *testing.T, v api.Verify, number int) *piece.Piece {
	t.Helper()
	p, e := piece.New(v, number)
	if p == nil || e != api.OK {
		t.Fatalf("New of %+v, %d: %v, %d", v, number, p, e)
	}
	return p
}

// upTo gives the numbers below n, rising.
func upTo(n int) []int {
	var l []int
	for i := range n {
		l = append(l, i)
	}
	return l
}

// brought gives the reply of the kind RepBytes, by the words of chapter 20.
func brought(b []byte) []byte {
	return append(binary.BigEndian.AppendUint32([]byte{5}, uint32(len(b))), b...)
}

// fetch gives the request of a stretch, likewise.
func fetch(i api.Index, number, at, n int) []byte {
	b := append([]byte{3}, i[:]...)
	b = append(b, byte(number))
	b = binary.BigEndian.AppendUint32(b, uint32(at))
	return binary.BigEndian.AppendUint32(b, uint32(n))
}

// stretch tells which stretch a request asks for, of that index and number.
func stretch(t *testing.T, q []byte, i api.Index, number int) (int, int) {
	t.Helper()
	if len(q) != 26 || q[0] != 3 || !bytes.Equal(q[1:17], i[:]) || int(q[17]) != number {
		t.Fatalf("%x is no fetch of number %d under %x", q, number, i)
	}
	return int(binary.BigEndian.Uint32(q[18:])), int(binary.BigEndian.Uint32(q[22:]))
}

func wantFront(t *testing.T, p *piece.Piece, want []byte, e api.Errno) {
	t.Helper()
	if b, g := p.Front(); g != e || !bytes.Equal(b, want) {
		t.Errorf("Front: %x, %d, want %x, %d", b, g, want, e)
	}
}

func wantOpen(t *testing.T, p *piece.Piece, reply []byte, e api.Errno) {
	t.Helper()
	if g := p.Open(reply); g != e {
		t.Errorf("Open of %.40x: %d, want %d", reply, g, e)
	}
}

func wantWant(t *testing.T, p *piece.Piece, segment int, want []byte, e api.Errno) {
	t.Helper()
	if b, g := p.Want(segment); g != e || !bytes.Equal(b, want) {
		t.Errorf("Want of %d: %x, %d, want %x, %d", segment, b, g, want, e)
	}
}

func wantTake(t *testing.T, p *piece.Piece, segment int, reply, want []byte, e api.Errno) {
	t.Helper()
	if b, g := p.Take(segment, reply); g != e || !bytes.Equal(b, want) {
		t.Errorf("Take of %d, %.40x: %.40x, %d, want %.40x, %d", segment, reply, b, g, want, e)
	}
}

func wantUeb(t *testing.T, p *piece.Piece, want api.Ueb, e api.Errno) {
	t.Helper()
	if u, g := p.Ueb(); g != e || u != want {
		t.Errorf("Ueb: %+v, %d, want %+v, %d", u, g, want, e)
	}
}

func wantSegment(t *testing.T, p *piece.Piece, segment int, want api.Digest, e api.Errno) {
	t.Helper()
	if d, g := p.Segment(segment); g != e || d != want {
		t.Errorf("Segment of %d: %x, %d, want %x, %d", segment, d, g, want, e)
	}
}

func wantStage(t *testing.T, p *piece.Piece, want api.Stage) {
	t.Helper()
	if s := p.Stage(); s != want {
		t.Errorf("Stage: %d, want %d", s, want)
	}
}

// wantHas: of all segments just these were taken.
func wantHas(t *testing.T, p *piece.Piece, want ...int) {
	t.Helper()
	for j := -1; j <= api.MaxSegs; j++ {
		if p.Has(j) != slices.Contains(want, j) {
			t.Errorf("Has of %d: %v", j, p.Has(j))
		}
	}
	for _, j := range odd() {
		if p.Has(j) {
			t.Errorf("Has of %d", j)
		}
	}
}

// wantTold: the piece tells what the front of a share says, and of no other segments.
func wantTold(t *testing.T, p *piece.Piece, m made) {
	t.Helper()
	wantUeb(t, p, m.ueb, api.OK)
	n := m.four.segs()
	for j, d := range m.segs[len(m.segs)/2:][:n] {
		wantSegment(t, p, j, d, api.OK)
	}
	for _, j := range append(odd(), -1, n, n+1, 511, 512) {
		if j < 0 || j >= n {
			wantSegment(t, p, j, api.Digest{}, api.ErrArg)
		}
	}
}

// wantNotTold: the piece tells nothing, whichever segment it is asked for.
func wantNotTold(t *testing.T, p *piece.Piece, e api.Errno) {
	t.Helper()
	wantUeb(t, p, api.Ueb{}, e)
	for _, j := range append(odd(), 0, 1, 512) {
		wantSegment(t, p, j, api.Digest{}, e)
	}
}

// wantBad: the piece is bad, asks nothing and takes nothing.
func wantBad(t *testing.T, p *piece.Piece, m made) {
	t.Helper()
	wantStage(t, p, api.StageBad)
	wantFront(t, p, nil, api.ErrOrder)
	wantOpen(t, p, brought(m.front()), api.ErrOrder)
	for _, j := range []int{-1, 0, len(m.data) - 1, len(m.data)} {
		wantWant(t, p, j, nil, api.ErrOrder)
		wantTake(t, p, j, brought(m.data[max(0, min(j, len(m.data)-1))]), nil, api.ErrOrder)
	}
	wantHas(t, p)
	wantStage(t, p, api.StageBad)
}

// odd are numbers far from all that may be, and such as a narrower number would take for one.
func odd() []int {
	return []int{-1, -2, -256, -512, math.MinInt, math.MinInt32, math.MaxInt, math.MaxInt32, 1 << 32, 1<<32 + 1, -1 << 32, 1 << 16, 1 << 20}
}

// noAnswers are replies that answer no fetch of so many bytes with any.
func noAnswers(b []byte) map[string][]byte {
	more := append(bytes.Clone(b), 0)
	long := brought(b)
	long[4]++
	short := brought(b)
	short[4]--
	return map[string][]byte{
		"nil":                       nil,
		"no bytes":                  {},
		"a nought":                  {0},
		"no such kind":              {8},
		"a kind of 255":             append([]byte{255}, brought(b)[1:]...),
		"RepNumbers":                {1, 2, 0, 3},
		"RepNumbers, none":          {1, 0},
		"RepStored":                 {repStored},
		"RepFull":                   {repFull},
		"RepOther":                  {repOther},
		"RepNone":                   {repNone},
		"RepRefused":                {repRefused},
		"RepNone with the bytes":    append([]byte{repNone}, brought(b)[1:]...),
		"RepBytes alone":            {5},
		"RepBytes of nothing":       {5, 0, 0, 0, 0},
		"a byte less":               brought(b[:len(b)-1]),
		"a byte more":               brought(more),
		"a byte cut off":            brought(b)[:len(b)+4],
		"a byte behind":             append(brought(b), 0),
		"said to be a byte longer":  long,
		"said to be a byte shorter": short,
		"the bytes themselves":      b,
		"the bytes twice":           brought(slices.Concat(b, b)),
		"as many as may be":         brought(make([]byte, api.MaxFetch)),
		"one more than may be":      brought(make([]byte, api.MaxFetch+1)),
		"a request":                 fetch(x, 0, 0, len(b)),
	}
}
