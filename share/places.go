package share

import (
	"strongroom/api"
	"strongroom/cut"
	"strongroom/octet"
	"strongroom/tree"
	"strongroom/ueb"
)

const (
	firstWord = 0x524f4f4d
	form      = 1
	wordLen   = 4
	digestLen = len(api.Digest{})
)

// The parts of a share behind its head, in the order in which they stand.
const (
	uebPart = iota
	chainPart
	blocksPart
	segsPart
	dataPart
	parts
)

// The words of a share's head: those of the parts' places begin with that of the Ueb.
const (
	firstAt = iota
	formAt
	numberAt
	placesAt
	headWords = placesAt + parts + 1
	headLen   = wordLen * headWords
)

// places tells where the parts begin, and behind them where the share ends: each part ends where the next one begins.
type places [parts + 1]int

// layout gives the places in the shares of a shape that fits. The digests of a Ueb are always of one length, so that its numbers alone say how long it is.
func layout(s api.Shape) places {
	uebLen, _ := ueb.Length(api.Ueb{K: s.K, N: s.N, Seg: s.Seg, Size: s.Size})
	chain, _ := tree.Chain(s.N, 0)
	width, _ := tree.Width(s.Segs)
	treeLen := (2*width - 1) * digestLen
	at := places{headLen}
	for i, n := range [parts]int{uebLen, len(chain) * digestLen, treeLen, treeLen, (s.Segs-1)*s.Block + s.LastBlock} {
		at[i+1] = at[i] + n
	}
	return at
}

// size tells how many bytes a part has.
func (at places) size(part int) int { return at[part+1] - at[part] }

// part gives a part of a share's bytes.
func (at places) part(b []byte, part int) []byte { return b[at[part]:at[part+1]] }

// head is what is known of a share by its first parts: all places follow from it.
type head struct {
	number int
	ueb    api.Ueb
	shape  api.Shape
	at     places
}

// readHead gives the head of bytes, whatever stands behind the Ueb; else the place of the first fault.
func readHead(b []byte) (head, int, api.Errno) {
	if len(b) < headLen {
		return head{}, len(b), api.ErrShare
	}
	words := readWords([headLen]byte(b[:headLen]))
	if at, is := opens(words, len(b)); !is {
		return head{}, at, api.ErrShare
	}
	u, _, e := ueb.Read(b[headLen:words[placesAt+chainPart]])
	if e != api.OK {
		return head{}, headLen, api.ErrShare
	}
	if words[numberAt] >= u.N {
		return head{}, wordLen * numberAt, api.ErrShare
	}
	shape, _ := shapeOf(u)
	h := head{number: words[numberAt], ueb: u, shape: shape, at: layout(shape)}
	for i, must := range h.at {
		if words[placesAt+i] != must {
			return head{}, wordLen * (placesAt + i), api.ErrShare
		}
	}
	return h, 0, api.OK
}

// opens tells whether the words may be looked at further: they are a share's, and so many bytes have the Ueb in them; else the place of the first fault.
func opens(words [headWords]int, size int) (int, bool) {
	uebEnd := words[placesAt+chainPart]
	switch {
	case words[firstAt] != firstWord:
		return wordLen * firstAt, false
	case words[formAt] != form:
		return wordLen * formAt, false
	case words[placesAt] != headLen:
		return wordLen * placesAt, false
	case uebEnd < headLen || uebEnd > size:
		return wordLen * (placesAt + chainPart), false
	}
	return 0, true
}

// readWords gives the numbers of a head's bytes.
func readWords(b [headLen]byte) [headWords]int {
	var words [headWords]int
	r := octet.NewReader(b[:])
	for i := range words {
		words[i] = int(r.Word())
	}
	return words
}

// laidWords gives the bytes of numbers.
func laidWords(numbers ...int) []byte {
	b := make([]byte, 0, wordLen*len(numbers))
	for _, x := range numbers {
		b = append(b, octet.Big(uint32(x))...)
	}
	return b
}

// shapeOf gives the shape of a Ueb.
func shapeOf(u api.Ueb) (api.Shape, api.Errno) { return cut.Again(u.K, u.N, u.Seg, u.Size) }
