package cut

import "strongroom/api"

// Check tells whether parameters may be.
func Check(p api.Params) api.Errno {
	if !counts(p.K, p.N) || p.Seg < 1 || p.Seg > api.MaxSeg || len(p.Secret) > api.MaxSecret {
		return api.ErrParams
	}
	return api.OK
}

// counts tells whether there may be N shares of which K are enough.
func counts(k, n int) bool { return 1 <= k && k <= n && n <= api.MaxN }

// Literal tells whether a file of so many bytes has no shares.
func Literal(size int) bool { return 0 <= size && size <= api.MaxLit }

// shared tells whether a file of so many bytes may be, and has shares.
func shared(size int) bool { return api.MaxLit < size && size <= api.MaxFile }

// Shape gives the shape of a file of so many bytes under parameters.
func Shape(p api.Params, size int) (api.Shape, api.Errno) {
	if e := Check(p); e != api.OK {
		return api.Shape{}, e
	}
	if !shared(size) {
		return api.Shape{}, api.ErrSize
	}
	s := shaped(p.K, p.N, p.K*upward(p.Seg, p.K), size)
	if s.Segs > api.MaxSegs {
		return api.Shape{}, api.ErrParams
	}
	return s, api.OK
}

// Again gives the shape of which these four are told.
func Again(k, n, seg, size int) (api.Shape, api.Errno) {
	if !counts(k, n) || seg < 1 || seg > most(k) || seg%k != 0 || !shared(size) {
		return api.Shape{}, api.ErrShape
	}
	s := shaped(k, n, seg, size)
	if s.Segs > api.MaxSegs {
		return api.Shape{}, api.ErrShape
	}
	return s, api.OK
}

// Fits tells whether a shape may be.
func Fits(s api.Shape) bool {
	again, e := Again(s.K, s.N, s.Seg, s.Size)
	return e == api.OK && again == s
}

// shaped works the rest of a shape out; there may be too many segments.
func shaped(k, n, seg, size int) api.Shape {
	segs := upward(size, seg)
	tail := size - (segs-1)*seg
	return api.Shape{K: k, N: n, Seg: seg, Size: size, Segs: segs, Tail: tail, Block: seg / k, LastBlock: upward(tail, k)}
}

// most tells how many bytes a segment of k blocks has at most.
func most(k int) int { return k * upward(api.MaxSeg, k) }

// upward divides a number from 1 on by another one, rounded up; it can't run over, however great they are.
func upward(x, by int) int { return (x-1)/by + 1 }
