package check

import "strongroom/api"

// frontBatch fetches the front of each share.
type frontBatch struct{}

func (frontBatch) next(h *held) []byte {
	request, _ := h.Front() // nothing is known of the share yet, and so it is due
	return request
}

func (frontBatch) take(h *held, reply []byte) {
	h.Open(reply) // a share that refuses its reply is bad, and tells so itself
}

// blockBatch fetches the block of one segment of each share.
type blockBatch struct {
	segment int
	keeps   bool
}

func (b blockBatch) next(h *held) []byte {
	request, _ := h.Want(b.segment) // the share is open, and has that segment
	return request
}

func (b blockBatch) take(h *held, reply []byte) {
	block, e := h.Take(b.segment, reply)
	if e == api.OK && b.keeps {
		h.blocks = append(h.blocks, block)
	}
}
