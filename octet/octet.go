// Package octet is layer 1: numbers as bytes, the highest first; frames; xor: see shared/doc/01-octet.md.
package octet

import (
	"bytes"
	"iter"

	"strongroom/api"
)

// stride is how many bytes Xor takes at a time, so that its pieces stay small however long the lists are.
const stride = 4096

// Whole is a number without sign that has as many bytes as its type.
type Whole interface {
	~uint8 | ~uint16 | ~uint32 | ~uint64
}

// Big gives the bytes of a number, the highest first.
func Big[T Whole](x T) []byte {
	out := make([]byte, width[T]())
	rest := uint64(x)
	for i := len(out) - 1; i >= 0; i-- {
		out[i] = byte(rest)
		rest >>= 8
	}
	return out
}

// Small gives the number of which these are the bytes.
func Small[T Whole](b []byte) (T, api.Errno) {
	w := width[T]()
	if len(b) < w {
		return 0, api.ErrEnd
	}
	if len(b) > w {
		return 0, api.ErrRest
	}
	var x uint64
	for _, c := range b {
		x = x<<8 | uint64(c)
	}
	return T(x), api.OK
}

// width counts in a uint64, since a type of one byte can't be shifted by eight bits.
func width[T Whole]() int {
	w := 0
	for most := uint64(^T(0)); most > 0; most >>= 8 {
		w++
	}
	return w
}

// Join lays lists of bytes one behind the other.
func Join(parts ...[]byte) []byte {
	size := 0
	for _, part := range parts {
		size += len(part)
	}
	out := make([]byte, 0, size)
	for _, part := range parts {
		out = append(out, part...)
	}
	return out
}

// Framed lays lists of bytes one behind the other, each with its length in eight bytes ahead.
func Framed(parts ...[]byte) []byte {
	pieces := make([][]byte, 0, 2*len(parts))
	for _, part := range parts {
		pieces = append(pieces, Big(uint64(len(part))), part)
	}
	return Join(pieces...)
}

// Unframed gives the lists of which these are the frames.
func Unframed(b []byte) ([][]byte, api.Errno) {
	var lists [][]byte
	r := NewReader(b)
	for r.Left() > 0 {
		n := r.Long()
		// A length may be greater than any int, so it is held against what is left while it is a uint64.
		if n > uint64(r.Left()) {
			return nil, api.ErrFrame
		}
		lists = append(lists, r.Bytes(int(n)))
	}
	if r.End() != api.OK {
		return nil, api.ErrFrame
	}
	return lists, api.OK
}

// Xor gives two lists of one length, byte by byte in one another.
func Xor(a, b []byte) ([]byte, api.Errno) {
	if len(a) != len(b) {
		return nil, api.ErrUnlike
	}
	out := make([]byte, len(a))
	for at, piece := range Chunks(a, stride) {
		for i, c := range piece {
			out[at+i] = c ^ b[at+i]
		}
	}
	return out, api.OK
}

// Chunks goes through a list in pieces of a size, each with its place; the last one may be shorter.
func Chunks(b []byte, size int) iter.Seq2[int, []byte] {
	if size < 1 {
		return func(func(int, []byte) bool) {}
	}
	// The caller may change b before or while the pieces are gone through.
	held := bytes.Clone(b)
	return func(yield func(int, []byte) bool) {
		for at := 0; at < len(held); {
			end := at + min(size, len(held)-at)
			if !yield(at, bytes.Clone(held[at:end])) {
				return
			}
			at = end
		}
	}
}

// Less tells whether one list stands ahead of another, byte by byte.
func Less(a, b []byte) bool { return bytes.Compare(a, b) < 0 }
