package check_test

import (
	"bytes"
	"crypto/sha256"
	"encoding/binary"
	"math"
	"slices"
	"strconv"
	"testing"

	"strongroom/api"
	"strongroom/check"
	"strongroom/post"
)

// The replies without anything behind their kind.
const (
	repStored  = 2
	repFull    = 3
	repOther   = 4
	repNone    = 6
	repRefused = 7
)

// filled gives a file of so many bytes.
func filled(n, seed int) []byte {
	b := make([]byte, n)
	for i := range b {
		b[i] = byte(i*i>>3 + 5*i + seed*(i>>2+1))
	}
	return b
}

func params(k, n, seg int) api.Params { return api.Params{K: k, N: n, Seg: seg, Happy: 1} }

// honest, late, lie, drop and lose give fates.
func honest(delay int) api.Fate { return api.Fate{Kind: api.FateHonest, Delay: delay} }

func late() api.Fate { return honest(api.Patience + 1) }

func lie(b ...byte) api.Fate { return api.Fate{Kind: api.FateLie, Delay: 1, Bytes: b} }

func drop() api.Fate { return api.Fate{Kind: api.FateDrop, Delay: 1} }

func lose() api.Fate { return api.Fate{Kind: api.FateLose, Delay: 1} }

// behind gives a row of so many honest fates, and others behind them.
func behind(calls int, fates ...api.Fate) []api.Fate {
	return append(slices.Repeat([]api.Fate{honest(1)}, calls), fates...)
}

// tagged gives a tagged digest by the library, as DOC.md says it.
func tagged(word string, parts ...[]byte) api.Digest {
	var b []byte
	for _, part := range append([][]byte{[]byte("strongroom " + word)}, parts...) {
		b = append(binary.BigEndian.AppendUint64(b, uint64(len(part))), part...)
	}
	return sha256.Sum256(b)
}

// widthOf gives the least power of two that is not below a number.
func widthOf(n int) int {
	w := 1
	for w < n {
		w *= 2
	}
	return w
}

// over gives the nodes of a tree over leaves, from number 1 on.
func over(leaves []api.Digest) []api.Digest {
	row := slices.Clone(leaves)
	for i := len(leaves); i < widthOf(len(leaves)); i++ {
		row = append(row, tagged("pad", binary.BigEndian.AppendUint32(nil, uint32(i))))
	}
	var nodes []api.Digest
	for {
		nodes = append(slices.Clone(row), nodes...)
		if len(row) == 1 {
			return nodes
		}
		var up []api.Digest
		for i := 0; i < len(row); i += 2 {
			up = append(up, tagged("node", row[i][:], row[i+1][:]))
		}
		row = up
	}
}

// orderOf gives the order in which servers are asked for an index, by the words of chapter 22.
func orderOf(x api.Index, servers int) []int {
	var order []int
	for s := range servers {
		order = append(order, s)
	}
	rank := func(s int) []byte {
		d := tagged("ring", x[:], binary.BigEndian.AppendUint32(nil, uint32(s)))
		return d[:]
	}
	slices.SortFunc(order, func(a, b int) int { return bytes.Compare(rank(a), rank(b)) })
	return order
}

// four are K, N, Seg and Size of a shape.
type four [4]int

func (s four) segs() int { return (s[3] + s[2] - 1) / s[2] }

// segLen tells how many bytes a segment has.
func (s four) segLen(j int) int { return min(s[2], s[3]-j*s[2]) }

// blockLen tells how many bytes the block of a segment has.
func (s four) blockLen(j int) int { return (s.segLen(j) + s[0] - 1) / s[0] }

// frontLen tells how many bytes a front has.
func (s four) frontLen() int {
	n := 36 + len(uebBytes(api.Ueb{K: s[0], N: s[1], Seg: s[2], Size: s[3]})) + 2*32*(2*widthOf(s.segs())-1)
	for w := widthOf(s[1]); w > 1; w /= 2 {
		n += 32
	}
	return n
}

// place tells where the block of a segment begins.
func (s four) place(j int) int {
	at := s.frontLen()
	for i := range j {
		at += s.blockLen(i)
	}
	return at
}

// shapes are parameters and sizes at their edges and between.
func shapes() []four {
	return []four{
		{1, 1, 33, 33}, {1, 1, 1, 512}, {1, 1, 50, 60}, {1, 3, 100, 100}, {2, 3, 40, 100}, {2, 2, 100, 33}, {3, 5, 12, 100}, {3, 10, 66, 1000}, {3, 3, 300, 34},
		{255, 255, 255, 300}, {1, 255, 20, 200}, {4, 129, 40, 333}, {20, 40, 80, 1001}, {2, 4, 10, 45}, {7, 9, 14, 45}, {2, 3, 34, 1054},
	}
}

// uebBytes puts a Ueb's bytes together by the words of chapter 13.
func uebBytes(u api.Ueb) []byte {
	var b []byte
	row := func(name, value string) {
		b = append(b, strconv.Itoa(len(name))+":"+name+","+strconv.Itoa(len(value))+":"+value+","...)
	}
	row("k", strconv.Itoa(u.K))
	row("n", strconv.Itoa(u.N))
	row("seg", strconv.Itoa(u.Seg))
	row("segments", string(u.Segs[:]))
	row("shares", string(u.Shares[:]))
	row("size", strconv.Itoa(u.Size))
	return b
}

// brought gives the reply of the kind RepBytes, by the words of chapter 20.
func brought(b []byte) []byte {
	return append(binary.BigEndian.AppendUint32([]byte{5}, uint32(len(b))), b...)
}

// numbers gives the reply of the kind RepNumbers, likewise.
func numbers(l ...byte) []byte { return append([]byte{1, byte(len(l))}, l...) }

// have and fetch give requests, likewise.
func have(x api.Index) []byte { return append([]byte{1}, x[:]...) }

func fetch(x api.Index, number, at, n int) []byte {
	b := append([]byte{3}, x[:]...)
	b = append(b, byte(number))
	b = binary.BigEndian.AppendUint32(b, uint32(at))
	return binary.BigEndian.AppendUint32(b, uint32(n))
}

func on(server, number int) api.Pair { return api.Pair{Server: server, Number: number} }

// kept gives a share as a server has it, for as long as may be.
func kept(x api.Index, number int, b []byte) api.Kept {
	return api.Kept{Index: x, Number: number, Bytes: b, Leases: []api.Lease{{Who: 1, Until: api.MaxTick}}}
}

// holding gives a store for each list of numbers, with the shares of these, rising.
func holding(x api.Index, shares [][]byte, servers ...[]int) []api.Store {
	var stores []api.Store
	for _, l := range servers {
		s := api.Store{Room: api.MaxRoom}
		for _, i := range l {
			s.Kept = append(s.Kept, kept(x, i, shares[i]))
		}
		stores = append(stores, s)
	}
	return stores
}

// upTo gives the numbers below n, rising.
func upTo(n int) []int {
	var l []int
	for i := range n {
		l = append(l, i)
	}
	return l
}

func begun(t *testing.T, stores []api.Store, fates ...[]api.Fate) *post.Net {
	t.Helper()
	n, e := post.New(stores, fates)
	if n == nil || e != api.OK {
		t.Fatalf("New: %v, %d", n, e)
	}
	return n
}

// noNets are nets that post's New did not make.
func noNets(t *testing.T) []*post.Net {
	copied := *begun(t, make([]api.Store, 3))
	return []*post.Net{nil, {}, &copied}
}

// wantUntouched: nothing was asked of a net and no tick went by.
func wantUntouched(t *testing.T, n *post.Net, tick, calls int) {
	t.Helper()
	if n.Tick() != tick || n.Made() != calls {
		t.Errorf("tick %d, %d calls, want %d and %d", n.Tick(), n.Made(), tick, calls)
	}
}

func sameChecked(a, b api.Checked) bool {
	return slices.Equal(a.Good, b.Good) && slices.Equal(a.Bad, b.Bad) && slices.Equal(a.Silent, b.Silent) && a.Spread == b.Spread && a.Enough == b.Enough && a.All == b.All
}

func sameBlocks(a, b [][][]byte) bool {
	return slices.EqualFunc(a, b, func(a, b [][]byte) bool { return slices.EqualFunc(a, b, bytes.Equal) })
}

// copied gives a Checked that has no part in another one.
func copied(c api.Checked) api.Checked {
	c.Good, c.Bad, c.Silent = slices.Clone(c.Good), slices.Clone(c.Bad), slices.Clone(c.Silent)
	return c
}

func wantChecked(t *testing.T, what string, c api.Checked, e api.Errno, want api.Checked, wanted api.Errno) {
	t.Helper()
	if e != wanted || !sameChecked(c, want) {
		t.Errorf("%s: %+v, %d, want %+v, %d", what, c, e, want, wanted)
	}
}

// wantCheck holds a Check against what it must come to.
func wantCheck(t *testing.T, what string, n *post.Net, v api.Verify, want api.Checked) {
	t.Helper()
	c, e := check.Check(n, v)
	wantChecked(t, what, c, e, want, api.OK)
}

// wantRefused: neither Check nor Shares takes its arguments.
func wantRefused(t *testing.T, what string, n *post.Net, v api.Verify, wanted api.Errno) {
	t.Helper()
	c, e := check.Check(n, v)
	wantChecked(t, "Check: "+what, c, e, api.Checked{}, wanted)
	c, blocks, e := check.Shares(n, v)
	wantChecked(t, "Shares: "+what, c, e, api.Checked{}, wanted)
	if len(blocks) != 0 {
		t.Errorf("Shares: %s: blocks of %d", what, len(blocks))
	}
}

// found puts a Checked together by the words of P27.1.
func found(v api.Verify, good, bad []api.Pair, silent ...int) api.Checked {
	s := spreadOf(good)
	return api.Checked{Good: good, Bad: bad, Silent: silent, Spread: s, Enough: s.Numbers >= v.K, All: s.Numbers == v.N}
}

// spreadOf tells how pairs are spread: the greatest matching grows server by server, each taking a number that is free or that its owner can do without.
func spreadOf(pairs []api.Pair) api.Spread {
	has := map[int][]int{}
	there := map[int]bool{}
	for _, p := range pairs {
		has[p.Server] = append(has[p.Server], p.Number)
		there[p.Number] = true
	}
	owner, happy := map[int]int{}, 0
	for server := range has {
		met := map[int]bool{}
		var find func(server int) bool
		find = func(server int) bool {
			for _, number := range has[server] {
				if met[number] {
					continue
				}
				met[number] = true
				if other, is := owner[number]; !is || find(other) {
					owner[number] = server
					return true
				}
			}
			return false
		}
		if find(server) {
			happy++
		}
	}
	return api.Spread{Servers: len(has), Numbers: len(there), Happy: happy}
}

// odd are numbers far from all that may be, and such as a narrower number would take for one.
func odd() []int {
	return []int{-1, -2, -256, math.MinInt, math.MinInt32, math.MaxInt, math.MaxInt32, 1 << 32, 1<<32 + 1, 1 << 16}
}

// badCaps are capabilities that may not be.
func badCaps(v api.Verify) []api.Verify {
	var bad []api.Verify
	add := func(k, n, seg, size int) {
		bad = append(bad, api.Verify{Index: v.Index, Ueb: v.Ueb, K: k, N: n, Seg: seg, Size: size})
	}
	add(0, 0, 0, 0)
	for _, far := range append(odd(), 0) {
		add(far, v.N, v.Seg, v.Size)
		add(v.K, far, v.Seg, v.Size)
		if far < 1 || far > api.MaxSeg {
			add(v.K, v.N, far, v.Size)
		}
		if far < 0 || far > api.MaxFile {
			add(v.K, v.N, v.Seg, far)
		}
	}
	add(2, 1, 40, 100)
	add(2, 256, 40, 100)
	add(2, 3, 41, 100)
	add(3, 5, 64, 100)
	add(1, 1, api.MaxSeg+1, 100)
	add(3, 5, 65541, 100)
	add(1, 1, 1, 513)
	for _, size := range []int{1, 31, 32, api.MaxFile + 1} {
		add(2, 3, 40, size)
	}
	return bad
}
