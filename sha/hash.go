package sha

import (
	"strongroom/api"
	"strongroom/octet"
)

// Hash takes a message piece by piece. It keeps at most a block of it, since what fills blocks is mixed in at once.
type Hash struct {
	begin [8]uint32 // the words of a hash of nothing; in one that no function made they are noughts
	words [8]uint32
	rest  [blockSize]byte
	size  int
}

// New makes a hash of nothing so far.
func New() *Hash {
	return &Hash{begin: Initial(), words: Initial()}
}

func (h *Hash) made() bool { return h != nil && h.begin == Initial() }

// Write takes bytes behind those that were taken.
func (h *Hash) Write(b []byte) api.Errno {
	if !h.made() {
		return api.ErrNil
	}
	h.take(b)
	return api.OK
}

func (h *Hash) take(b []byte) {
	held := h.size % blockSize
	h.size += len(b)
	if held > 0 {
		n := copy(h.rest[held:], b)
		b = b[n:]
		if held+n < blockSize {
			return
		}
		h.words = Mix(h.words, h.rest)
	}
	for len(b) >= blockSize {
		h.words = Mix(h.words, [blockSize]byte(b))
		b = b[blockSize:]
	}
	copy(h.rest[:], b)
}

// Sum gives the digest of what was taken so far.
func (h *Hash) Sum() api.Digest {
	if !h.made() {
		return api.Digest{}
	}
	// What is put behind the message goes into a copy, since more of the message may come.
	whole := *h
	pad, _ := Pad(h.size)
	whole.take(pad)
	var d api.Digest
	for i, x := range whole.words {
		copy(d[4*i:], octet.Big(x))
	}
	return d
}

// Size tells how many bytes were taken.
func (h *Hash) Size() int {
	if !h.made() {
		return 0
	}
	return h.size
}

// Reset makes it a hash of nothing again.
func (h *Hash) Reset() api.Errno {
	if !h.made() {
		return api.ErrNil
	}
	*h = *New()
	return api.OK
}

// Clone gives a hash of its own that has taken the same.
func (h *Hash) Clone() *Hash {
	if !h.made() {
		return nil
	}
	twin := *h
	return &twin
}
