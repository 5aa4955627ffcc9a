package octet

import (
	"bytes"

	"strongroom/api"
)

// Reader takes bytes from the left; behind its first fault it gives nothing any more.
type Reader struct {
	made  bool // tells a reader of no bytes from one that NewReader did not make
	fault bool
	rest  []byte
}

// NewReader begins to read bytes.
func NewReader(b []byte) *Reader { return &Reader{made: true, rest: bytes.Clone(b)} }

// Byte takes a byte.
func (r *Reader) Byte() uint8 { return number[uint8](r) }

// Word takes four bytes.
func (r *Reader) Word() uint32 { return number[uint32](r) }

// Long takes eight bytes.
func (r *Reader) Long() uint64 { return number[uint64](r) }

// Digest takes 32 bytes.
func (r *Reader) Digest() api.Digest {
	piece := r.take(len(api.Digest{}))
	if len(piece) == 0 {
		return api.Digest{}
	}
	return api.Digest(piece)
}

// Bytes takes so many bytes.
func (r *Reader) Bytes(n int) []byte { return bytes.Clone(r.take(n)) }

// Left tells how many bytes are left.
func (r *Reader) Left() int {
	if r == nil {
		return 0
	}
	return len(r.rest)
}

// End tells whether all went well, and nothing is left.
func (r *Reader) End() api.Errno {
	switch {
	case r == nil || !r.made:
		return api.ErrNil
	case r.fault:
		return api.ErrEnd
	case len(r.rest) > 0:
		return api.ErrRest
	}
	return api.OK
}

// number leans on Small answering 0 where take hands out nothing.
func number[T Whole](r *Reader) T {
	x, _ := Small[T](r.take(width[T]()))
	return x
}

// take hands out a piece of the reader's own memory: who hands it on must copy it.
func (r *Reader) take(n int) []byte {
	if r == nil || !r.made {
		return nil
	}
	if n < 0 || n > len(r.rest) {
		// Without a rest nothing can be taken behind a fault, and nothing is left.
		r.fault, r.rest = true, nil
		return nil
	}
	piece := r.rest[:n:n]
	r.rest = r.rest[n:]
	return piece
}
