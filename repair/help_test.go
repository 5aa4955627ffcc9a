package repair_test

import (
	"bytes"
	"crypto/sha256"
	"encoding/binary"
	"math"
	"slices"
	"strconv"
	"testing"

	"strongroom/api"
	"strongroom/check"
	"strongroom/post"
	"strongroom/repair"
)

// The replies without anything behind their kind.
const (
	repStored  = 2
	repFull    = 3
	repOther   = 4
	repNone    = 6
	repRefused = 7
)

// filled gives a file of so many bytes.
func filled(n, seed int) []byte {
	b := make([]byte, n)
	for i := range b {
		b[i] = byte(i*i>>3 + 5*i + seed*(i>>2+1))
	}
	return b
}

func params(k, n, seg int) api.Params { return api.Params{K: k, N: n, Seg: seg, Happy: 1} }

// honest, late, lie, drop and lose give fates.
func honest(delay int) api.Fate { return api.Fate{Kind: api.FateHonest, Delay: delay} }

func late() api.Fate { return honest(api.Patience + 1) }

func lie(b ...byte) api.Fate { return api.Fate{Kind: api.FateLie, Delay: 1, Bytes: b} }

func drop() api.Fate { return api.Fate{Kind: api.FateDrop, Delay: 1} }

func lose() api.Fate { return api.Fate{Kind: api.FateLose, Delay: 1} }

// behind gives a row of so many honest fates, and others behind them.
func behind(calls int, fates ...api.Fate) []api.Fate {
	return append(slices.Repeat([]api.Fate{honest(1)}, calls), fates...)
}

// tagged gives a tagged digest by the library, as DOC.md says it.
func tagged(word string, parts ...[]byte) api.Digest {
	var b []byte
	for _, part := range append([][]byte{[]byte("strongroom " + word)}, parts...) {
		b = append(binary.BigEndian.AppendUint64(b, uint64(len(part))), part...)
	}
	return sha256.Sum256(b)
}

// widthOf gives the least power of two that is not below a number.
func widthOf(n int) int {
	w := 1
	for w < n {
		w *= 2
	}
	return w
}

// over gives the nodes of a tree over leaves, from number 1 on.
func over(leaves []api.Digest) []api.Digest {
	row := slices.Clone(leaves)
	for i := len(leaves); i < widthOf(len(leaves)); i++ {
		row = append(row, tagged("pad", binary.BigEndian.AppendUint32(nil, uint32(i))))
	}
	var nodes []api.Digest
	for {
		nodes = append(slices.Clone(row), nodes...)
		if len(row) == 1 {
			return nodes
		}
		var up []api.Digest
		for i := 0; i < len(row); i += 2 {
			up = append(up, tagged("node", row[i][:], row[i+1][:]))
		}
		row = up
	}
}

// orderOf gives the order in which servers are asked for an index, by the words of chapter 22.
func orderOf(x api.Index, servers int) []int {
	var order []int
	for s := range servers {
		order = append(order, s)
	}
	rank := func(s int) []byte {
		d := tagged("ring", x[:], binary.BigEndian.AppendUint32(nil, uint32(s)))
		return d[:]
	}
	slices.SortFunc(order, func(a, b int) int { return bytes.Compare(rank(a), rank(b)) })
	return order
}

// four are K, N, Seg and Size of a shape.
type four [4]int

func (s four) segs() int { return (s[3] + s[2] - 1) / s[2] }

// segLen tells how many bytes a segment has.
func (s four) segLen(j int) int { return min(s[2], s[3]-j*s[2]) }

// blockLen tells how many bytes the block of a segment has.
func (s four) blockLen(j int) int { return (s.segLen(j) + s[0] - 1) / s[0] }

// frontLen tells how many bytes a front has.
func (s four) frontLen() int {
	n := 36 + len(uebBytes(api.Ueb{K: s[0], N: s[1], Seg: s[2], Size: s[3]})) + 2*32*(2*widthOf(s.segs())-1)
	for w := widthOf(s[1]); w > 1; w /= 2 {
		n += 32
	}
	return n
}

// place tells where the block of a segment begins.
func (s four) place(j int) int {
	at := s.frontLen()
	for i := range j {
		at += s.blockLen(i)
	}
	return at
}

// shapes are parameters and sizes at their edges and between.
func shapes() []four {
	return []four{
		{1, 1, 33, 33}, {1, 1, 1, 512}, {1, 1, 50, 60}, {1, 3, 100, 100}, {2, 3, 40, 100}, {2, 2, 100, 33}, {3, 5, 12, 100}, {3, 10, 66, 1000}, {3, 3, 300, 34},
		{255, 255, 255, 300}, {1, 255, 20, 200}, {4, 129, 40, 333}, {20, 40, 80, 1001}, {2, 4, 10, 45}, {7, 9, 14, 45}, {2, 3, 34, 1054},
	}
}

// uebBytes puts a Ueb's bytes together by the words of chapter 13.
func uebBytes(u api.Ueb) []byte {
	var b []byte
	row := func(name, value string) {
		b = append(b, strconv.Itoa(len(name))+":"+name+","+strconv.Itoa(len(value))+":"+value+","...)
	}
	row("k", strconv.Itoa(u.K))
	row("n", strconv.Itoa(u.N))
	row("seg", strconv.Itoa(u.Seg))
	row("segments", string(u.Segs[:]))
	row("shares", string(u.Shares[:]))
	row("size", strconv.Itoa(u.Size))
	return b
}

// brought gives the reply of the kind RepBytes, by the words of chapter 20.
func brought(b []byte) []byte {
	return append(binary.BigEndian.AppendUint32([]byte{5}, uint32(len(b))), b...)
}

// numbers gives the reply of the kind RepNumbers, likewise.
func numbers(l ...byte) []byte { return append([]byte{1, byte(len(l))}, l...) }

// have and fetch give requests, likewise.
func have(x api.Index) []byte { return append([]byte{1}, x[:]...) }

func fetch(x api.Index, number, at, n int) []byte {
	b := append([]byte{3}, x[:]...)
	b = append(b, byte(number))
	b = binary.BigEndian.AppendUint32(b, uint32(at))
	return binary.BigEndian.AppendUint32(b, uint32(n))
}

// storing gives the request of a store, likewise.
func storing(x api.Index, number int, l api.Lease, share []byte) []byte {
	b := append([]byte{2}, x[:]...)
	b = append(b, byte(number))
	b = binary.BigEndian.AppendUint32(b, l.Who)
	b = binary.BigEndian.AppendUint64(b, uint64(l.Until))
	b = binary.BigEndian.AppendUint32(b, uint32(len(share)))
	return append(b, share...)
}

func lease(who uint32, until int) api.Lease { return api.Lease{Who: who, Until: until} }

func on(server, number int) api.Pair { return api.Pair{Server: server, Number: number} }

// kept gives a share as a server has it, for as long as may be.
func kept(x api.Index, number int, b []byte) api.Kept {
	return api.Kept{Index: x, Number: number, Bytes: b, Leases: []api.Lease{{Who: 1, Until: api.MaxTick}}}
}

// holding gives a store for each list of numbers, with the shares of these, rising.
func holding(x api.Index, shares [][]byte, servers ...[]int) []api.Store {
	var stores []api.Store
	for _, l := range servers {
		s := api.Store{Room: api.MaxRoom}
		for _, i := range l {
			s.Kept = append(s.Kept, kept(x, i, shares[i]))
		}
		stores = append(stores, s)
	}
	return stores
}

// upTo gives the numbers below n, rising.
func upTo(n int) []int {
	var l []int
	for i := range n {
		l = append(l, i)
	}
	return l
}

func begun(t *testing.T, stores []api.Store, fates ...[]api.Fate) *post.Net {
	t.Helper()
	n, e := post.New(stores, fates)
	if n == nil || e != api.OK {
		t.Fatalf("New: %v, %d", n, e)
	}
	return n
}

// noNets are nets that post's New did not make.
func noNets(t *testing.T) []*post.Net {
	copied := *begun(t, make([]api.Store, 3))
	return []*post.Net{nil, {}, &copied}
}

// wantUntouched: nothing was asked of a net and no tick went by.
func wantUntouched(t *testing.T, n *post.Net, tick, calls int) {
	t.Helper()
	if n.Tick() != tick || n.Made() != calls {
		t.Errorf("tick %d, %d calls, want %d and %d", n.Tick(), n.Made(), tick, calls)
	}
}

func sameRepaired(a, b api.Repaired) bool {
	return slices.Equal(a.Good, b.Good) && slices.Equal(a.Stored, b.Stored) && slices.Equal(a.Lacks, b.Lacks)
}

// copied gives a Repaired that has no part in another one.
func copied(r api.Repaired) api.Repaired {
	return api.Repaired{Good: slices.Clone(r.Good), Stored: slices.Clone(r.Stored), Lacks: slices.Clone(r.Lacks)}
}

func wantRepaired(t *testing.T, what string, r api.Repaired, e api.Errno, want api.Repaired, wanted api.Errno) {
	t.Helper()
	if e != wanted || !sameRepaired(r, want) {
		t.Errorf("%s: %+v, %d, want %+v, %d", what, r, e, want, wanted)
	}
}

// wantRepair holds a Repair against what it must come to.
func wantRepair(t *testing.T, what string, n *post.Net, v api.Verify, l api.Lease, want api.Repaired, wanted api.Errno) {
	t.Helper()
	r, e := repair.Repair(n, v, l)
	wantRepaired(t, what, r, e, want, wanted)
}

// wantAll: a check finds all numbers, and nothing that is bad; how many pairs there are.
func wantAll(t *testing.T, what string, n *post.Net, v api.Verify) int {
	t.Helper()
	c, e := check.Check(n, v)
	if e != api.OK || !c.All || len(c.Bad) != 0 {
		t.Errorf("%s: a check finds %+v, %d", what, c, e)
	}
	return len(c.Good)
}

// odd are numbers far from all that may be, and such as a narrower number would take for one.
func odd() []int {
	return []int{-1, -2, -256, math.MinInt, math.MinInt32, math.MaxInt, math.MaxInt32, 1 << 32, 1<<32 + 1, 1 << 16}
}

// badCaps are capabilities that may not be.
func badCaps(v api.Verify) []api.Verify {
	var bad []api.Verify
	add := func(k, n, seg, size int) {
		bad = append(bad, api.Verify{Index: v.Index, Ueb: v.Ueb, K: k, N: n, Seg: seg, Size: size})
	}
	add(0, 0, 0, 0)
	for _, far := range append(odd(), 0) {
		add(far, v.N, v.Seg, v.Size)
		add(v.K, far, v.Seg, v.Size)
		if far < 1 || far > api.MaxSeg {
			add(v.K, v.N, far, v.Size)
		}
		if far < 0 || far > api.MaxFile {
			add(v.K, v.N, v.Seg, far)
		}
	}
	add(2, 1, 40, 100)
	add(2, 256, 40, 100)
	add(2, 3, 41, 100)
	add(3, 5, 64, 100)
	add(1, 1, api.MaxSeg+1, 100)
	add(3, 5, 65541, 100)
	add(1, 1, 1, 513)
	for _, size := range []int{1, 31, 32, api.MaxFile + 1} {
		add(2, 3, 40, size)
	}
	return bad
}
