package repair_test

import (
	"bytes"
	"crypto/aes"
	"crypto/cipher"
	"slices"
	"testing"

	"strongroom/api"
	"strongroom/recipe"
	"strongroom/rs"
)

// truth is what a capability speaks of: the one share of each number that validates under it, of a file or of none.
type truth struct {
	v      api.Verify
	four   four
	ueb    api.Ueb
	shares [][]byte
	file   bool // it is the capability of a file
}

// madeOf gives what a file comes to.
func madeOf(t *testing.T, file []byte, p api.Params) api.Made {
	t.Helper()
	m, e := recipe.Make(file, p)
	if e != api.OK {
		t.Fatalf("Make of %d bytes, %+v: %d", len(file), p, e)
	}
	return m
}

// truthOf gives what the capability of a file speaks of, the file being filled with a seed.
func truthOf(t *testing.T, s four, seed int) truth {
	t.Helper()
	m := madeOf(t, filled(s[3], seed), params(s[0], s[1], s[2]))
	return truth{v: m.Verify, four: s, ueb: m.Ueb, shares: m.Shares, file: true}
}

// forged makes a capability for blocks, by number and segment, and for digests of segments, whatever they are.
func forged(s four, x api.Index, blocks [][][]byte, segs []api.Digest) truth {
	w := truth{four: s}
	segTree := over(segs)
	var roots []api.Digest
	var trees [][]api.Digest
	for _, row := range blocks {
		var leaves []api.Digest
		for _, b := range row {
			leaves = append(leaves, tagged("block", b))
		}
		nodes := over(leaves)
		trees, roots = append(trees, nodes), append(roots, tagged("root", nodes[0][:]))
	}
	shareTree := over(roots)
	w.ueb = api.Ueb{K: s[0], N: s[1], Seg: s[2], Size: s[3], Shares: shareTree[0], Segs: segTree[0]}
	w.v = api.Verify{Index: x, Ueb: tagged("ueb", uebBytes(w.ueb)), K: s[0], N: s[1], Seg: s[2], Size: s[3]}
	for i, row := range blocks {
		var chain []api.Digest
		for x := widthOf(s[1]) + i; x > 1; x /= 2 {
			chain = append(chain, shareTree[x^1-1])
		}
		w.shares = append(w.shares, shareBytes(i, w.ueb, chain, trees[i], segTree, row))
	}
	return w
}

// shareBytes puts a share together by the table of chapter 14.
func shareBytes(number int, u api.Ueb, chain, blocks, segs []api.Digest, data [][]byte) []byte {
	bound, all := uebBytes(u), slices.Concat(data...)
	at := 36
	words := []int{0x524f4f4d, 1, number, at}
	for _, n := range []int{len(bound), 32 * len(chain), 32 * len(blocks), 32 * len(segs), len(all)} {
		at += n
		words = append(words, at)
	}
	var b []byte
	for _, w := range words {
		b = append(b, byte(w>>24), byte(w>>16), byte(w>>8), byte(w))
	}
	b = append(b, bound...)
	for _, d := range slices.Concat(chain, blocks, segs) {
		b = append(b, d[:]...)
	}
	return append(b, all...)
}

// noFile gives what a capability speaks of whose shares are no file's: their blocks and the digests of segments have nothing to do with one another.
func noFile(s four, seed int) truth {
	var blocks [][][]byte
	for i := range s[1] {
		var row [][]byte
		for j := range s.segs() {
			row = append(row, filled(s.blockLen(j), seed+100*i+j))
		}
		blocks = append(blocks, row)
	}
	var segs []api.Digest
	for j := range s.segs() {
		segs = append(segs, tagged("pad", filled(4, seed+j)))
	}
	return forged(s, api.Index{byte(seed), 2}, blocks, segs)
}

func (w truth) front(number int) []byte { return w.shares[number][:w.four.frontLen()] }

func (w truth) block(number, j int) []byte {
	return w.shares[number][w.four.place(j):][:w.four.blockLen(j)]
}

// row gives the blocks of a number, by segment.
func (w truth) row(number int) [][]byte {
	var l [][]byte
	for j := range w.four.segs() {
		l = append(l, w.block(number, j))
	}
	return l
}

func (w truth) frontFetch(number int) []byte { return fetch(w.v.Index, number, 0, w.four.frontLen()) }

func (w truth) blockFetch(number, j int) []byte {
	return fetch(w.v.Index, number, w.four.place(j), w.four.blockLen(j))
}

// most tells how many requests a repair makes at most.
func (w truth) most(servers int) int {
	return servers + servers*w.four[1]*(1+w.four.segs()) + servers*w.four[1]
}

// in gives pairs as the servers are asked, and of each server by number.
func (w truth) in(servers int, pairs ...api.Pair) []api.Pair {
	var l []api.Pair
	for _, s := range orderOf(w.v.Index, servers) {
		for number := range api.MaxN {
			if slices.Contains(pairs, on(s, number)) {
				l = append(l, on(s, number))
			}
		}
	}
	return l
}

// partsOf gives the blocks of a file's shares, by number and segment, and the digests of its segments, these by the library.
func partsOf(t *testing.T, s four, seed int) ([][][]byte, []api.Digest) {
	t.Helper()
	m, w := madeOf(t, filled(s[3], seed), params(s[0], s[1], s[2])), truthOf(t, s, seed)
	ciphered := make([]byte, s[3])
	c, _ := aes.NewCipher(m.Read.Key[:])
	cipher.NewCTR(c, make([]byte, 16)).XORKeyStream(ciphered, filled(s[3], seed))
	var segs []api.Digest
	for j := range s.segs() {
		segs = append(segs, tagged("segment", ciphered[j*s[2]:][:s.segLen(j)]))
	}
	var blocks [][][]byte
	for number := range s[1] {
		blocks = append(blocks, nil)
		for j := range s.segs() {
			blocks[number] = append(blocks[number], bytes.Clone(w.block(number, j)))
		}
	}
	return blocks, segs
}

// TestForged: what is forged of a file's own blocks and digests is the file's capability and its shares.
func TestForged(t *testing.T) {
	for i, s := range shapes() {
		w := truthOf(t, s, i)
		blocks, segs := partsOf(t, s, i)
		if f := forged(s, w.v.Index, blocks, segs); f.v != w.v || f.ueb != w.ueb || !slices.EqualFunc(f.shares, w.shares, bytes.Equal) {
			t.Errorf("%v: %+v, want %+v", s, f.v, w.v)
		}
	}
}

// crooked gives what capabilities speak of that were made for almost a file's shares: one byte of a block is another one, the digest of a segment is, two shares stand for one another, blocks are filled with something else than noughts.
func crooked(t *testing.T, s four, seed int) []truth {
	t.Helper()
	x := api.Index{byte(seed), 3}
	var l []truth
	number, j := seed%s[1], seed%s.segs()
	blocks, segs := partsOf(t, s, seed)
	blocks[number][j][seed%s.blockLen(j)] ^= 1
	l = append(l, forged(s, x, blocks, segs))
	blocks, segs = partsOf(t, s, seed)
	segs[j][seed%32] ^= 1
	l = append(l, forged(s, x, blocks, segs))
	blocks, segs = partsOf(t, s, seed)
	if other := (number + 1) % s[1]; !slices.EqualFunc(blocks[number], blocks[other], bytes.Equal) {
		blocks[number], blocks[other] = blocks[other], blocks[number]
		l = append(l, forged(s, x, blocks, segs))
	}
	blocks, segs = partsOf(t, s, seed)
	for j := range s.segs() {
		if s.segLen(j) < s[0]*s.blockLen(j) {
			l = append(l, forged(s, x, filledUp(t, s, blocks, j), segs))
			break
		}
	}
	return l
}

// filledUp turns the last of the bytes that fill a segment up, and makes the other blocks of it go with that.
func filledUp(t *testing.T, s four, blocks [][][]byte, j int) [][][]byte {
	t.Helper()
	code, _ := rs.New(s[0], s[1])
	var first [][]byte
	for _, row := range blocks[:s[0]] {
		first = append(first, row[j])
	}
	first[s[0]-1][s.blockLen(j)-1] ^= 1
	all, e := code.Encode(first)
	if e != api.OK {
		t.Fatal(e)
	}
	for i, b := range all {
		blocks[i][j] = b
	}
	return blocks
}
