package recipe_test

import (
	"bytes"
	"crypto/aes"
	"crypto/cipher"
	"crypto/sha256"
	"encoding/binary"
	"fmt"
	"slices"
	"sync"

	"strongroom/api"
)

// What stands here reckons the recipe anew, out of the document's words and the library alone.

// taggedBytes gives the bytes that a tagged digest is of.
func taggedBytes(word string, parts ...[]byte) []byte {
	var b []byte
	for _, part := range append([][]byte{[]byte(word)}, parts...) {
		b = binary.BigEndian.AppendUint64(b, uint64(len(part)))
		b = append(b, part...)
	}
	return b
}

func tagged(word string, parts ...[]byte) api.Digest {
	return sha256.Sum256(taggedBytes(word, parts...))
}

// upward divides, rounded up.
func upward(x, by int) int {
	q := x / by
	if q*by < x {
		q++
	}
	return q
}

// shapedSeg gives the Seg of the shape.
func shapedSeg(p api.Params) int { return p.K * upward(p.Seg, p.K) }

// keyBytes gives the bytes that are digested for a key.
func keyBytes(file []byte, p api.Params) []byte {
	params := binary.BigEndian.AppendUint32([]byte{byte(p.K), byte(p.N)}, uint32(shapedSeg(p)))
	return taggedBytes("strongroom key", p.Secret, params, file)
}

func keyOf(file []byte, p api.Params) api.Key {
	d := sha256.Sum256(keyBytes(file, p))
	return api.Key(d[:16])
}

func indexOf(key api.Key) api.Index {
	d := tagged("strongroom index", key[:])
	return api.Index(d[:16])
}

// applied enciphers or deciphers from the first place on.
func applied(key api.Key, b []byte) []byte {
	block, err := aes.NewCipher(key[:])
	if err != nil {
		panic(err)
	}
	out := make([]byte, len(b))
	cipher.NewCTR(block, make([]byte, 16)).XORKeyStream(out, b)
	return out
}

// treeOver gives the nodes of the tree over leaves, node number x at the place x - 1.
func treeOver(leaves []api.Digest) []api.Digest {
	row := slices.Clone(leaves)
	width := 1
	for width < len(row) {
		width *= 2
	}
	for i := len(row); i < width; i++ {
		row = append(row, tagged("strongroom pad", binary.BigEndian.AppendUint32(nil, uint32(i))))
	}
	nodes := row
	for len(row) > 1 {
		var above []api.Digest
		for i := 0; i < len(row); i += 2 {
			above = append(above, tagged("strongroom node", row[i][:], row[i+1][:]))
		}
		nodes = append(slices.Clone(above), nodes...)
		row = above
	}
	return nodes
}

// times multiplies in the field of 256 elements whose polynomial is 11d, hexadecimal.
func times(a, b byte) byte {
	sum, x := 0, int(a)
	for bit := range 8 {
		if b>>bit&1 == 1 {
			sum ^= x
		}
		x <<= 1
		if x > 255 {
			x ^= 0x11d
		}
	}
	return byte(sum)
}

// products has the products of all elements.
var products = sync.OnceValue(func() *[256][256]byte {
	var t [256][256]byte
	for a := range 256 {
		for b := range 256 {
			t[a][b] = times(byte(a), byte(b))
		}
	}
	return &t
})

// inverses has, of each element but nought, the one whose product with it is 1.
var inverses = sync.OnceValue(func() *[256]byte {
	var t [256]byte
	for a := range 256 {
		t[a] = byte(max(0, slices.Index(products()[a][:], 1)))
	}
	return &t
})

// blocksOf gives all N blocks of a segment.
func blocksOf(segment []byte, k, n int) [][]byte {
	size := upward(len(segment), k)
	filled := append(slices.Clone(segment), make([]byte, k*size-len(segment))...)
	blocks := make([][]byte, n)
	for i := range blocks {
		blocks[i] = make([]byte, size)
		for j := range k {
			data := filled[j*size : (j+1)*size]
			if i == j {
				copy(blocks[i], data)
			}
			if i >= k {
				row := &products()[inverses()[i^j]]
				for at, x := range data {
					blocks[i][at] ^= row[x]
				}
			}
		}
	}
	return blocks
}

// uebBytes gives the bytes of a Ueb.
func uebBytes(u api.Ueb) []byte {
	var b []byte
	for _, row := range []struct{ name, value string }{
		{"k", fmt.Sprint(u.K)}, {"n", fmt.Sprint(u.N)}, {"seg", fmt.Sprint(u.Seg)}, {"segments", string(u.Segs[:])}, {"shares", string(u.Shares[:])}, {"size", fmt.Sprint(u.Size)},
	} {
		b = fmt.Appendf(b, "%d:%s,%d:%s,", len(row.name), row.name, len(row.value), row.value)
	}
	return b
}

// shareBytes gives the bytes of a share out of its parts.
func shareBytes(number int, u, chain, blockTree, segTree, data []byte) []byte {
	words := []int{0x524f4f4d, 1, number}
	at := 36
	for _, part := range [][]byte{u, chain, blockTree, segTree, data} {
		words = append(words, at)
		at += len(part)
	}
	var b []byte
	for _, x := range append(words, at) {
		b = binary.BigEndian.AppendUint32(b, uint32(x))
	}
	return slices.Concat(b, u, chain, blockTree, segTree, data)
}

// laid gives digests as bytes.
func laid(digests []api.Digest) []byte {
	var b []byte
	for _, d := range digests {
		b = append(b, d[:]...)
	}
	return b
}

// boundOf gives the Ueb and the shares of a ciphertext.
func boundOf(ciphertext []byte, k, n, seg int) (api.Ueb, [][]byte) {
	var segLeaves []api.Digest
	data, blockLeaves := make([][]byte, n), make([][]api.Digest, n)
	for segment := range slices.Chunk(ciphertext, seg) {
		segLeaves = append(segLeaves, tagged("strongroom segment", segment))
		for i, block := range blocksOf(segment, k, n) {
			blockLeaves[i] = append(blockLeaves[i], tagged("strongroom block", block))
			data[i] = append(data[i], block...)
		}
	}
	segTree := treeOver(segLeaves)
	blockTrees, shareLeaves := make([][]api.Digest, n), make([]api.Digest, n)
	for i, leaves := range blockLeaves {
		blockTrees[i] = treeOver(leaves)
		shareLeaves[i] = tagged("strongroom root", blockTrees[i][0][:])
	}
	shareTree := treeOver(shareLeaves)
	u := api.Ueb{K: k, N: n, Seg: seg, Size: len(ciphertext), Shares: shareTree[0], Segs: segTree[0]}
	shares := make([][]byte, n)
	for i := range shares {
		var chain []api.Digest
		for x := (len(shareTree)+1)/2 + i; x > 1; x /= 2 {
			chain = append(chain, shareTree[x^1-1])
		}
		shares[i] = shareBytes(i, uebBytes(u), laid(chain), laid(blockTrees[i]), laid(segTree), data[i])
	}
	return u, shares
}

// madeOf gives all that a file comes to.
func madeOf(file []byte, p api.Params) api.Made {
	key := keyOf(file, p)
	u, shares := boundOf(applied(key, file), p.K, p.N, shapedSeg(p))
	d := tagged("strongroom ueb", uebBytes(u))
	return api.Made{
		Read:   api.Read{Key: key, Ueb: d, K: u.K, N: u.N, Seg: u.Seg, Size: u.Size},
		Verify: api.Verify{Index: indexOf(key), Ueb: d, K: u.K, N: u.N, Seg: u.Seg, Size: u.Size},
		Ueb:    u,
		Shares: shares,
	}
}

func sameLists(a, b [][]byte) bool { return slices.EqualFunc(a, b, bytes.Equal) }

func sameMade(a, b api.Made) bool {
	return a.Read == b.Read && a.Verify == b.Verify && a.Ueb == b.Ueb && sameLists(a.Shares, b.Shares)
}
