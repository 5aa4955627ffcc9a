package recipe

import (
	"strongroom/api"
	"strongroom/cut"
	"strongroom/rs"
	"strongroom/share"
	"strongroom/tag"
	"strongroom/tree"
)

// bound is what a ciphertext comes to: what binds its shares, the trees of digests as nodes, and the blocks of those shares that are kept.
type bound struct {
	ueb        api.Ueb
	shareTree  []api.Digest
	segTree    []api.Digest
	blockTrees [][]api.Digest // one a share
	data       [][][]byte     // one list of blocks a share, none where it is not kept
}

// every is what is kept by those who want all shares.
func every(int) bool { return true }

// bind digests all shares of a ciphertext of that shape, and keeps the blocks of those of which kept says so: together they are N / K times as long as the ciphertext.
func bind(cipher []byte, s api.Shape, kept func(number int) bool) bound {
	b := bound{data: make([][][]byte, s.N)}
	segLeaves := make([]api.Digest, 0, s.Segs)
	blockLeaves := make([][]api.Digest, s.N)
	laySegment := func(segment []byte) { segLeaves = append(segLeaves, tag.Segment(segment)) }
	layBlock := func(number int, block []byte) {
		blockLeaves[number] = append(blockLeaves[number], tag.Block(block))
		if kept(number) {
			b.data[number] = append(b.data[number], block)
		}
	}
	spread(cipher, s, laySegment, layBlock)
	b.segTree = sure(tree.Build(segLeaves))
	shareLeaves := make([]api.Digest, 0, s.N)
	for _, leaves := range blockLeaves {
		nodes := sure(tree.Build(leaves))
		b.blockTrees = append(b.blockTrees, nodes)
		shareLeaves = append(shareLeaves, tag.Root(nodes[0]))
	}
	b.shareTree = sure(tree.Build(shareLeaves))
	b.ueb = api.Ueb{K: s.K, N: s.N, Seg: s.Seg, Size: s.Size, Shares: b.shareTree[0], Segs: b.segTree[0]}
	return b
}

// spread goes through the segments of a ciphertext, and hands each of them, and each share's block of it, to who lays it down.
func spread(cipher []byte, s api.Shape, laySegment func(segment []byte), layBlock func(number int, block []byte)) {
	code := sure(rs.New(s.K, s.N))
	for _, segment := range cut.Segments(s, cipher) {
		laySegment(segment)
		first := sure(cut.Blocks(segment, s.K))
		for number, block := range sure(code.Encode(first)) {
			layBlock(number, block)
		}
	}
}

// share gives the bytes of a share that is kept.
func (b bound) share(number int) []byte {
	front := api.Front{Number: number, Ueb: b.ueb, Chain: b.chain(number), Blocks: b.blockTrees[number], Segs: b.segTree}
	return sure(share.Pack(api.Share{Front: front, Data: b.data[number]}))
}

// chain gives the digests beside the way of a share's leaf up to the root over the shares.
func (b bound) chain(number int) []api.Digest {
	var digests []api.Digest
	for _, x := range sure(tree.Chain(b.ueb.N, number)) {
		digests = append(digests, b.shareTree[x-1])
	}
	return digests
}

// shares gives the bytes of all shares, all of them being kept.
func (b bound) shares() [][]byte {
	out := make([][]byte, 0, len(b.data))
	for number := range b.data {
		out = append(out, b.share(number))
	}
	return out
}
