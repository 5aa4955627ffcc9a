package tree

import (
	"iter"

	"strongroom/api"
	"strongroom/tag"
)

// node gives the number of a leaf's node.
func node(leaves, leaf int) (int, api.Errno) {
	width, e := Width(leaves)
	if e != api.OK {
		return 0, e
	}
	if leaf < 0 || leaf >= leaves {
		return 0, api.ErrLeaf
	}
	return width + leaf, api.OK
}

// Up goes from a leaf to the root, by numbers of nodes.
func Up(leaves, leaf int) iter.Seq[int] {
	first, e := node(leaves, leaf)
	if e != api.OK {
		return func(func(int) bool) {}
	}
	return func(yield func(int) bool) {
		// Each going through counts for itself, so that it may be done again, or within another.
		for x := first; x >= 1; x /= 2 {
			if !yield(x) {
				return
			}
		}
	}
}

// Chain tells the numbers of the nodes beside the way from a leaf up to the root.
func Chain(leaves, leaf int) ([]int, api.Errno) {
	if _, e := node(leaves, leaf); e != api.OK {
		return nil, e
	}
	var chain []int
	for x := range Up(leaves, leaf) {
		// Nothing stands beside the root.
		if x > 1 {
			chain = append(chain, x^1)
		}
	}
	return chain, api.OK
}

// Climb gives the root that a leaf and its chain lead to.
func Climb(leaves, leaf int, d api.Digest, chain []api.Digest) (api.Digest, api.Errno) {
	beside, e := Chain(leaves, leaf)
	if e != api.OK {
		return api.Digest{}, e
	}
	if len(chain) != len(beside) {
		return api.Digest{}, api.ErrNodes
	}
	for i, x := range beside {
		// Left nodes have even numbers.
		if x%2 == 0 {
			d = tag.Node(chain[i], d)
		} else {
			d = tag.Node(d, chain[i])
		}
	}
	return d, api.OK
}
