package get_test

import (
	"bytes"
	"crypto/aes"
	"crypto/cipher"
	"crypto/sha256"
	"encoding/binary"
	"math"
	"slices"
	"strconv"
	"testing"

	"strongroom/api"
	"strongroom/post"
	"strongroom/recipe"
)

// The replies without anything behind their kind.
const (
	repStored  = 2
	repFull    = 3
	repOther   = 4
	repNone    = 6
	repRefused = 7
)

// filled gives a file of so many bytes.
func filled(n, seed int) []byte {
	b := make([]byte, n)
	for i := range b {
		b[i] = byte(i*i>>3 + 5*i + seed*(i>>2+1))
	}
	return b
}

func params(k, n, seg int) api.Params { return api.Params{K: k, N: n, Seg: seg} }

// honest, late, lie, drop and lose give fates.
func honest(delay int) api.Fate { return api.Fate{Kind: api.FateHonest, Delay: delay} }

func late() api.Fate { return honest(api.Patience + 1) }

func lie(b ...byte) api.Fate { return api.Fate{Kind: api.FateLie, Delay: 1, Bytes: b} }

func drop() api.Fate { return api.Fate{Kind: api.FateDrop, Delay: 1} }

func lose() api.Fate { return api.Fate{Kind: api.FateLose, Delay: 1} }

// tagged gives a tagged digest by the library, as DOC.md says it.
func tagged(word string, parts ...[]byte) api.Digest {
	var b []byte
	for _, part := range append([][]byte{[]byte("strongroom " + word)}, parts...) {
		b = append(binary.BigEndian.AppendUint64(b, uint64(len(part))), part...)
	}
	return sha256.Sum256(b)
}

func node(left, right api.Digest) api.Digest { return tagged("node", left[:], right[:]) }

// widthOf gives the least power of two that is not below a number.
func widthOf(n int) int {
	w := 1
	for w < n {
		w *= 2
	}
	return w
}

// over gives the nodes of a tree over leaves, from number 1 on.
func over(leaves []api.Digest) []api.Digest {
	row := slices.Clone(leaves)
	for i := len(leaves); i < widthOf(len(leaves)); i++ {
		row = append(row, tagged("pad", binary.BigEndian.AppendUint32(nil, uint32(i))))
	}
	var nodes []api.Digest
	for {
		nodes = append(slices.Clone(row), nodes...)
		if len(row) == 1 {
			return nodes
		}
		var up []api.Digest
		for i := 0; i < len(row); i += 2 {
			up = append(up, node(row[i], row[i+1]))
		}
		row = up
	}
}

// orderOf gives the order in which servers are asked for an index, by the words of chapter 22.
func orderOf(x api.Index, servers int) []int {
	var order []int
	for s := range servers {
		order = append(order, s)
	}
	rank := func(s int) []byte {
		d := tagged("ring", x[:], binary.BigEndian.AppendUint32(nil, uint32(s)))
		return d[:]
	}
	slices.SortFunc(order, func(a, b int) int { return bytes.Compare(rank(a), rank(b)) })
	return order
}

func indexOf(k api.Key) api.Index {
	d := tagged("index", k[:])
	return api.Index(d[:16])
}

// ciphered enciphers a file, or deciphers it, by the library.
func ciphered(k api.Key, file []byte) []byte {
	block, _ := aes.NewCipher(k[:])
	out := make([]byte, len(file))
	cipher.NewCTR(block, make([]byte, 16)).XORKeyStream(out, file)
	return out
}

// four are K, N, Seg and Size of a shape.
type four [4]int

func (s four) segs() int { return (s[3] + s[2] - 1) / s[2] }

// segLen tells how many bytes a segment has.
func (s four) segLen(j int) int { return min(s[2], s[3]-j*s[2]) }

// blockLen tells how many bytes the block of a segment has.
func (s four) blockLen(j int) int { return (s.segLen(j) + s[0] - 1) / s[0] }

// frontLen tells how many bytes a front has.
func (s four) frontLen() int {
	n := 36 + len(uebBytes(api.Ueb{K: s[0], N: s[1], Seg: s[2], Size: s[3]})) + 2*32*(2*widthOf(s.segs())-1)
	for w := widthOf(s[1]); w > 1; w /= 2 {
		n += 32
	}
	return n
}

// place tells where the block of a segment begins.
func (s four) place(j int) int {
	at := s.frontLen()
	for i := range j {
		at += s.blockLen(i)
	}
	return at
}

// uebBytes puts a Ueb's bytes together by the words of chapter 13.
func uebBytes(u api.Ueb) []byte {
	var b []byte
	row := func(name, value string) {
		b = append(b, strconv.Itoa(len(name))+":"+name+","+strconv.Itoa(len(value))+":"+value+","...)
	}
	row("k", strconv.Itoa(u.K))
	row("n", strconv.Itoa(u.N))
	row("seg", strconv.Itoa(u.Seg))
	row("segments", string(u.Segs[:]))
	row("shares", string(u.Shares[:]))
	row("size", strconv.Itoa(u.Size))
	return b
}

// brought gives the reply of the kind RepBytes, by the words of chapter 20.
func brought(b []byte) []byte {
	return append(binary.BigEndian.AppendUint32([]byte{5}, uint32(len(b))), b...)
}

// numbers gives the reply of the kind RepNumbers, likewise.
func numbers(l ...byte) []byte { return append([]byte{1, byte(len(l))}, l...) }

// have and fetch give requests, likewise.
func have(x api.Index) []byte { return append([]byte{1}, x[:]...) }

func fetch(x api.Index, number, at, n int) []byte {
	b := append([]byte{3}, x[:]...)
	b = append(b, byte(number))
	b = binary.BigEndian.AppendUint32(b, uint32(at))
	return binary.BigEndian.AppendUint32(b, uint32(n))
}

// made gives what a file comes to.
func made(t *testing.T, file []byte, p api.Params) api.Made {
	t.Helper()
	m, e := recipe.Make(file, p)
	if e != api.OK {
		t.Fatalf("Make of %d bytes, %+v: %d", len(file), p, e)
	}
	return m
}

// kept gives a share as a server has it, for as long as may be.
func kept(x api.Index, number int, b []byte) api.Kept {
	return api.Kept{Index: x, Number: number, Bytes: b, Leases: []api.Lease{{Who: 1, Until: api.MaxTick}}}
}

// holding gives a store for each list of numbers, with the shares of these, rising.
func holding(x api.Index, shares [][]byte, servers ...[]int) []api.Store {
	var stores []api.Store
	for _, l := range servers {
		s := api.Store{Room: api.MaxRoom}
		for _, i := range l {
			s.Kept = append(s.Kept, kept(x, i, shares[i]))
		}
		stores = append(stores, s)
	}
	return stores
}

func begun(t *testing.T, stores []api.Store, fates ...[]api.Fate) *post.Net {
	t.Helper()
	n, e := post.New(stores, fates)
	if n == nil || e != api.OK {
		t.Fatalf("New: %v, %d", n, e)
	}
	return n
}

// noNets are nets that post's New did not make.
func noNets(t *testing.T) []*post.Net {
	copied := *begun(t, make([]api.Store, 3))
	return []*post.Net{nil, {}, &copied}
}

// wantUntouched: nothing was asked of a net and no tick went by.
func wantUntouched(t *testing.T, n *post.Net, tick, calls int) {
	t.Helper()
	if n.Tick() != tick || n.Made() != calls {
		t.Errorf("tick %d, %d calls, want %d and %d", n.Tick(), n.Made(), tick, calls)
	}
}

func sameGot(a, b api.Got) bool {
	return bytes.Equal(a.Ueb, b.Ueb) && a.First == b.First && slices.EqualFunc(a.Segs, b.Segs, bytes.Equal) && bytes.Equal(a.File, b.File) && a.Requests == b.Requests
}

// asked tells how many calls the read made, all else of the answer being empty.
func asked(calls int) api.Got { return api.Got{Requests: calls} }

// short tells a Got in few letters.
func short(g api.Got) string {
	return "{" + strconv.Itoa(len(g.Ueb)) + " bytes, from " + strconv.Itoa(g.First) + " on " + strconv.Itoa(len(g.Segs)) + " segments, file of " + strconv.Itoa(len(g.File)) + ", " + strconv.Itoa(g.Requests) + " requests}"
}

func wantGot(t *testing.T, what string, g api.Got, e api.Errno, want api.Got, wanted api.Errno) {
	t.Helper()
	if e != wanted || !sameGot(g, want) {
		t.Errorf("%s: %s, %d, want %s, %d", what, short(g), e, short(want), wanted)
	}
}

// odd are numbers far from all that may be, and such as a narrower number would take for one.
func odd() []int {
	return []int{-1, -2, -256, math.MinInt, math.MinInt32, math.MaxInt, math.MaxInt32, 1 << 32, 1<<32 + 1, 1 << 16}
}

// badCaps are capabilities that may not be.
func badCaps(c api.Read) []api.Read {
	var bad []api.Read
	add := func(k, n, seg, size int) {
		bad = append(bad, api.Read{Key: c.Key, Ueb: c.Ueb, K: k, N: n, Seg: seg, Size: size})
	}
	add(0, 0, 0, 0)
	for _, far := range append(odd(), 0) {
		add(far, c.N, c.Seg, c.Size)
		add(c.K, far, c.Seg, c.Size)
		if far < 1 || far > api.MaxSeg {
			add(c.K, c.N, far, c.Size)
		}
		if far < 0 || far > api.MaxFile {
			add(c.K, c.N, c.Seg, far)
		}
	}
	add(2, 1, 40, 100)
	add(2, 256, 40, 100)
	add(2, 3, 41, 100)
	add(1, 1, api.MaxSeg+1, 100)
	add(3, 5, 65541, 100)
	add(1, 1, 1, 513)
	for _, size := range []int{1, 31, 32, api.MaxFile + 1} {
		add(2, 3, 40, size)
	}
	return bad
}
