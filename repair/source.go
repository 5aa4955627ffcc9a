package repair

import (
	"strongroom/api"
	"strongroom/cut"
	"strongroom/recipe"
	"strongroom/rs"
	"strongroom/ueb"
)

// source is what a ciphertext is put together of: K good shares of unlike numbers, and of each its blocks by segment.
type source struct {
	shape   api.Shape
	numbers []int
	blocks  [][][]byte
}

// sourceOf takes the good shares at these places.
func sourceOf(s api.Shape, good []api.Pair, blocks [][][]byte, places []int) source {
	from := source{shape: s}
	for _, i := range places {
		from.numbers = append(from.numbers, good[i].Number)
		from.blocks = append(from.blocks, blocks[i])
	}
	return from
}

// remade makes all shares of the capability anew.
func (from source) remade(v api.Verify) ([][]byte, api.Errno) {
	u, shares, _ := recipe.Bind(from.ciphertext(), v.K, v.N, v.Seg) // it has as many bytes as the shape says
	digest, _ := ueb.Digest(u)
	if digest != v.Ueb {
		return nil, api.ErrWrong
	}
	return shares, api.OK
}

// ciphertext puts the segments together, one behind the other.
func (from source) ciphertext() []byte {
	code, _ := rs.New(from.shape.K, from.shape.N)
	cipher := make([]byte, 0, from.shape.Size)
	from.each(func(blocks [][]byte, size int) {
		// Neither refuses: the blocks have been held against the Ueb's shape.
		first, _ := code.Decode(from.numbers, blocks)
		segment, _ := cut.Join(first, size)
		cipher = append(cipher, segment...)
	})
	return cipher
}

// each hands on, segment by segment, the blocks of it and how many bytes it has.
func (from source) each(lay func(blocks [][]byte, size int)) {
	for j := range from.shape.Segs {
		var blocks [][]byte
		for _, row := range from.blocks {
			blocks = append(blocks, row[j])
		}
		size, _ := cut.SegSize(from.shape, j)
		lay(blocks, size)
	}
}
