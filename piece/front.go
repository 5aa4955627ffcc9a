package piece

import (
	"strongroom/api"
	"strongroom/share"
	"strongroom/tag"
	"strongroom/tree"
	"strongroom/ueb"
)

// front is what a front that validates promises: nothing, as long as none has.
type front struct {
	ueb    api.Ueb
	blocks []api.Digest // of the share, by segment
	segs   []api.Digest // of the segments of the ciphertext
}

// validates asks whether the bytes that came are a front that validates, and lays what it promises into its place.
func (p *Piece) validates(to *front, b *[]byte) question {
	return func() api.Errno {
		var f api.Front
		return ask(
			must(api.ErrFront, func() bool { return opens(&f, *b) }),
			must(api.ErrFront, func() bool { return f.Number == p.number }),
			must(api.ErrFront, func() bool { return p.isBoundBy(&to.ueb, f.Ueb) }),
			must(api.ErrFront, func() bool { return p.stands(&to.blocks, f.Blocks) }),
			must(api.ErrFront, func() bool { return leadsUp(f) }),
			must(api.ErrFront, func() bool { return p.stands(&to.segs, f.Segs) }),
			must(api.ErrFront, func() bool { return f.Segs[0] == f.Ueb.Segs }),
		)
	}
}

// opens tells whether bytes are a front, and lays it into its place.
func opens(f *api.Front, b []byte) bool {
	read, _, e := share.OpenFront(b)
	*f = read
	return e == api.OK
}

// isBoundBy tells whether a Ueb is the one that the capability speaks of, and lays it into its place.
func (p *Piece) isBoundBy(to *api.Ueb, u api.Ueb) bool {
	*to = u
	d, e := ueb.Digest(u)
	v := p.verify
	return e == api.OK && d == v.Ueb && u.K == v.K && u.N == v.N && u.Seg == v.Seg && u.Size == v.Size
}

// stands tells whether nodes are a tree over as many leaves as there are segments, and lays these into their place.
func (p *Piece) stands(leaves *[]api.Digest, nodes []api.Digest) bool {
	read, _, e := tree.Leaves(p.shape.Segs, nodes)
	*leaves = read
	return e == api.OK
}

// leadsUp tells whether the root of the blocks leads up to the root over the shares.
func leadsUp(f api.Front) bool {
	root, e := tree.Climb(f.Ueb.N, f.Number, tag.Root(f.Blocks[0]), f.Chain)
	return e == api.OK && root == f.Ueb.Shares
}
