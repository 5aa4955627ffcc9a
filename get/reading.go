package get

import (
	"slices"

	"strongroom/api"
	"strongroom/cut"
	"strongroom/piece"
	"strongroom/rs"
	"strongroom/tag"
	"strongroom/tree"
)

// reading is a read on its way: whom it asks, which pieces are in use, and what they have come to.
type reading struct {
	source
	from       asked
	code       *rs.Code
	candidates []candidate
	used       []*holder
	segs       [][]byte
	digests    []api.Digest // those of segs
}

// holder is a piece in use, and who holds its share.
type holder struct {
	*piece.Piece
	api.Pair
	block []byte // the last one that was taken
	out   bool
}

// begin finds the candidates.
func begin(s source, from asked) (*reading, api.Errno) {
	list, e := candidatesOf(from, s.verify.Index, s.shape.N)
	if e != api.OK {
		return nil, e
	}
	code, e := rs.New(s.shape.K, s.shape.N)
	return &reading{source: s, from: from, code: code, candidates: list}, e
}

// segments reads the segments from one number to another, both in.
func (r *reading) segments(first, last int) (e api.Errno) {
all:
	for j := first; j <= last; j++ {
		for done := false; !done; {
			if e = r.fill(); e != api.OK {
				break all // too few are left, for all segments behind this one, too
			}
			if done, e = r.fetch(j); e != api.OK {
				break all
			}
		}
		if e = r.join(j); e != api.OK {
			break all
		}
	}
	return e
}

// fill takes candidates till K pieces are in use whose fronts were taken.
func (r *reading) fill() api.Errno {
	front := func(h *holder) ([]byte, api.Errno) { return h.Front() }
	open := func(h *holder, reply []byte) api.Errno { return h.Open(reply) }
	for done := false; !done; {
		var e api.Errno
		if done, e = r.ask(r.takeOn(), front, open); e != api.OK {
			return e
		}
	}
	if len(r.used) < r.shape.K {
		return api.ErrFew
	}
	return api.OK
}

// takeOn takes as many candidates as lack, each the first one whose number no piece in use has, and gives their pieces.
func (r *reading) takeOn() []*holder {
	var has [api.MaxN]bool
	for _, h := range r.used {
		has[h.Number] = true
	}
	var fresh []*holder
	for i := range r.candidates {
		c := &r.candidates[i]
		if len(r.used) == r.shape.K {
			break
		}
		if c.taken || has[c.Number] {
			continue
		}
		c.taken, has[c.Number] = true, true
		p, _ := piece.New(r.verify, c.Number) // the capability may be, and has that number
		h := &holder{Piece: p, Pair: c.Pair}
		r.used, fresh = append(r.used, h), append(fresh, h)
	}
	return fresh
}

// fetch has the pieces in use bring their blocks of a segment, as far as they have not; whether none of them fell out of use by it.
func (r *reading) fetch(j int) (bool, api.Errno) {
	var due []*holder
	for _, h := range r.used {
		if !h.Has(j) {
			due = append(due, h)
		}
	}
	want := func(h *holder) ([]byte, api.Errno) { return h.Want(j) }
	take := func(h *holder, reply []byte) (e api.Errno) {
		h.block, e = h.Take(j, reply)
		return e
	}
	return r.ask(due, want, take)
}

// ask makes a batch of what each of some pieces in use asks for next, and hands it its reply. A piece that no reply comes for, or that refuses it, is out of use; whether none is.
func (r *reading) ask(pieces []*holder, next func(*holder) ([]byte, api.Errno), take func(*holder, []byte) api.Errno) (bool, api.Errno) {
	if len(pieces) == 0 {
		return true, api.OK
	}
	batch := make([]api.Call, len(pieces))
	for i, h := range pieces {
		request, _ := next(h) // no piece in use is asked for what is not due
		batch[i] = api.Call{Server: h.Server, Bytes: request}
	}
	answers, e := r.from.Ask(batch)
	if e != api.OK {
		return false, e
	}
	for _, a := range answers {
		h := pieces[a.Place]
		h.out = !a.Came || take(h, a.Bytes) != api.OK
	}
	before := len(r.used)
	r.used = slices.DeleteFunc(r.used, func(h *holder) bool { return h.out })
	return len(r.used) == before, api.OK
}

// join makes a segment of the blocks of the pieces in use, each of which has brought its own.
func (r *reading) join(j int) api.Errno {
	var numbers []int
	var blocks [][]byte
	for _, h := range r.used {
		numbers, blocks = append(numbers, h.Number), append(blocks, h.block)
	}
	// Nobody refuses: there are K pieces of unlike numbers, and their blocks are as long as the segment's must be.
	first, _ := r.code.Decode(numbers, blocks)
	size, _ := cut.SegSize(r.shape, j)
	segment, _ := cut.Join(first, size)
	promised, _ := r.used[0].Segment(j)
	digest := tag.Segment(segment)
	if digest != promised {
		return api.ErrWrong
	}
	r.segs, r.digests = append(r.segs, segment), append(r.digests, digest)
	return api.OK
}

// rooted tells whether the segments, all of which were read, have a root over them.
func (r *reading) rooted(root api.Digest) bool {
	over, e := tree.Root(r.digests)
	return e == api.OK && over == root
}
