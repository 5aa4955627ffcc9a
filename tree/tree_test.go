package tree_test

import (
	"crypto/sha256"
	"encoding/binary"
	"math"
	"slices"
	"testing"

	"strongroom/api"
	"strongroom/tag"
	"strongroom/tree"
)

// roomy gives a list with spare room behind it, and a function that tells whether any of it was changed.
func roomy(list []api.Digest) ([]api.Digest, func() bool) {
	all := append(slices.Clone(list), api.Digest{7}, api.Digest{8}, api.Digest{9})
	was := slices.Clone(all)
	return all[:len(list)], func() bool { return !slices.Equal(all, was) }
}

// spoil overwrites a list and its spare room.
func spoil(l []api.Digest) {
	l = l[:cap(l)]
	for i := range l {
		l[i][i%32] ^= 0xa5
	}
}

// tagged reckons a tagged digest by the library.
func tagged(word string, parts ...[]byte) api.Digest {
	var b []byte
	for _, part := range append([][]byte{[]byte(word)}, parts...) {
		b = binary.BigEndian.AppendUint64(b, uint64(len(part)))
		b = append(b, part...)
	}
	return sha256.Sum256(b)
}

func over(left, right api.Digest) api.Digest { return tagged("strongroom node", left[:], right[:]) }

func padOf(i int) api.Digest {
	return tagged("strongroom pad", binary.BigEndian.AppendUint32(nil, uint32(i)))
}

// digests gives n digests that look like no rule, others for another seed.
func digests(n, seed int) []api.Digest {
	out := make([]api.Digest, n)
	for i := range out {
		out[i] = sha256.Sum256([]byte{byte(i), byte(i >> 8), byte(seed), byte(seed >> 8)})
	}
	return out
}

// widthOf reckons a width by doubling.
func widthOf(leaves int) int {
	w := 1
	for w < leaves {
		w += w
	}
	return w
}

// rows reckons a tree row by row, from the leaves up.
func rows(leaves []api.Digest) [][]api.Digest {
	row := slices.Clone(leaves)
	for i := len(leaves); i < widthOf(len(leaves)); i++ {
		row = append(row, padOf(i))
	}
	out := [][]api.Digest{row}
	for len(row) > 1 {
		var next []api.Digest
		for pair := range slices.Chunk(row, 2) {
			next = append(next, over(pair[0], pair[1]))
		}
		out, row = append(out, next), next
	}
	return out
}

// nodesOf reckons the nodes of a tree, the row of the root first.
func nodesOf(leaves []api.Digest) []api.Digest {
	all := rows(leaves)
	slices.Reverse(all)
	return slices.Concat(all...)
}

// counts gives numbers of leaves: all small ones, and those around each power of two.
func counts() []int {
	var out []int
	for n := 1; n <= 40; n++ {
		out = append(out, n)
	}
	return append(out, 63, 64, 65, 100, 127, 128, 129, 255, 256, 257, 511, 512)
}

// noCounts gives numbers that no tree's leaves have.
func noCounts() []int {
	return []int{0, -1, -2, -512, 513, 514, 1024, 65536, 1 << 32, 1<<32 + 1, math.MinInt, math.MinInt + 1, math.MaxInt}
}

func TestP11_1Width(t *testing.T) {
	for n := 1; n <= 512; n++ {
		if got, e := tree.Width(n); got != widthOf(n) || e != api.OK {
			t.Errorf("Width(%d): %d, %d instead of %d", n, got, e, widthOf(n))
		}
	}
	for _, c := range [][2]int{{1, 1}, {2, 2}, {3, 4}, {255, 256}, {512, 512}} {
		if got, e := tree.Width(c[0]); got != c[1] || e != api.OK {
			t.Errorf("Width(%d): %d, %d instead of %d", c[0], got, e, c[1])
		}
	}
	for _, n := range noCounts() {
		if got, e := tree.Width(n); got != 0 || e != api.ErrLeaves {
			t.Errorf("Width(%d): %d, %d instead of ErrLeaves", n, got, e)
		}
	}
}

func TestP11_1Build(t *testing.T) {
	for _, n := range counts() {
		leaves, changed := roomy(digests(n, 1))
		want := nodesOf(leaves)
		got, e := tree.Build(leaves)
		if e != api.OK || !slices.Equal(got, want) {
			t.Errorf("Build of %d leaves: another tree, %d", n, e)
		}
		if root, e := tree.Root(leaves); e != api.OK || root != want[0] {
			t.Errorf("Root of %d leaves: %x, %d instead of %x", n, root, e, want[0])
		}
		if changed() {
			t.Errorf("%d leaves: the argument was changed", n)
		}
	}
}

func TestP11_1BuildOfLikeLeaves(t *testing.T) {
	for _, n := range []int{1, 2, 3, 4, 5, 9} {
		leaves := make([]api.Digest, n)
		if got, e := tree.Build(leaves); e != api.OK || !slices.Equal(got, nodesOf(leaves)) {
			t.Errorf("Build of %d leaves of noughts: another tree, %d", n, e)
		}
	}
}

func TestP11_1Example(t *testing.T) {
	d := digests(3, 2)
	a, b := over(d[0], d[1]), over(d[2], padOf(3))
	want := []api.Digest{over(a, b), a, b, d[0], d[1], d[2], padOf(3)}
	if got, e := tree.Build(d); e != api.OK || !slices.Equal(got, want) {
		t.Errorf("Build of three: %x, %d instead of %x", got, e, want)
	}
	if got, e := tree.Build(d[:1]); e != api.OK || !slices.Equal(got, d[:1]) {
		t.Errorf("Build of one: %x, %d instead of it", got, e)
	}
	if got, e := tree.Root(d[:1]); e != api.OK || got != d[0] {
		t.Errorf("Root of one: %x, %d instead of it", got, e)
	}
}

func TestP11_1Refused(t *testing.T) {
	for _, leaves := range [][]api.Digest{nil, {}, make([]api.Digest, 513), make([]api.Digest, 514), make([]api.Digest, 1024), make([]api.Digest, 65537)} {
		if got, e := tree.Build(leaves); len(got) != 0 || e != api.ErrLeaves {
			t.Errorf("Build of %d leaves: %d nodes, %d instead of ErrLeaves", len(leaves), len(got), e)
		}
		if got, e := tree.Root(leaves); got != (api.Digest{}) || e != api.ErrLeaves {
			t.Errorf("Root of %d leaves: %x, %d instead of ErrLeaves", len(leaves), got, e)
		}
	}
}

func TestP11_1OwnMemory(t *testing.T) {
	for _, n := range []int{1, 2, 3, 4, 7, 512} {
		leaves, changed := roomy(digests(n, 3))
		want := nodesOf(leaves)
		first, _ := tree.Build(leaves)
		second, _ := tree.Build(leaves)
		spoil(first)
		if changed() || !slices.Equal(second, want) {
			t.Errorf("Build of %d leaves: its answer shares memory", n)
		}
		spoil(leaves)
		if !slices.Equal(second, want) {
			t.Errorf("Build of %d leaves: its answer is the argument's memory", n)
		}
	}
}

// wantLeaves holds what Leaves answers against what it must.
func wantLeaves(t *testing.T, what string, n int, nodes, want []api.Digest, at int, wanted api.Errno) {
	t.Helper()
	nodes, changed := roomy(nodes)
	got, where, e := tree.Leaves(n, nodes)
	if !slices.Equal(got, want) || where != at || e != wanted {
		t.Errorf("%s: %d leaves, %d, %d instead of %d, %d, %d", what, len(got), where, e, len(want), at, wanted)
	}
	if changed() {
		t.Errorf("%s: the argument was changed", what)
	}
}

// faultOf reckons the number of the first node at fault, over all nodes in order.
func faultOf(n int, nodes []api.Digest) int {
	w := widthOf(n)
	for x := 1; x < 2*w; x++ {
		must := nodes[x-1]
		if x < w {
			must = over(nodes[2*x-1], nodes[2*x])
		} else if x-w >= n {
			must = padOf(x - w)
		}
		if must != nodes[x-1] {
			return x
		}
	}
	return 0
}

// mend makes the nodes above node x right.
func mend(nodes []api.Digest, x int) {
	for x /= 2; x >= 1; x /= 2 {
		nodes[x-1] = over(nodes[2*x-1], nodes[2*x])
	}
}

func TestP11_4Leaves(t *testing.T) {
	for _, n := range counts() {
		leaves := digests(n, 4)
		wantLeaves(t, "a tree", n, nodesOf(leaves), leaves, 0, api.OK)
	}
}

func TestP11_4OneNodeTurned(t *testing.T) {
	for _, n := range []int{1, 2, 3, 4, 5, 6, 7, 8, 9, 13, 16} {
		leaves := digests(n, 5)
		for x := 1; x < 2*widthOf(n); x++ {
			for _, bit := range []int{0, 7, 100, 255} {
				nodes := nodesOf(leaves)
				nodes[x-1][bit/8] ^= 1 << (bit % 8)
				// What is at fault first is the node above the one that was turned; the root alone has none above it.
				at := max(x/2, 1)
				if n == 1 {
					wantLeaves(t, "one leaf is what it is", n, nodes, nodes, 0, api.OK)
				} else {
					wantLeaves(t, "a node turned", n, nodes, nil, at, api.ErrNode)
				}
			}
		}
	}
}

func TestP11_4NoPad(t *testing.T) {
	for _, n := range []int{3, 5, 6, 7, 9, 10, 15, 17, 31, 257, 511} {
		w := widthOf(n)
		for i := n; i < w; i++ {
			nodes := nodesOf(digests(n, 6))
			nodes[w+i-1][31] ^= 128
			mend(nodes, w+i)
			wantLeaves(t, "another pad, and all above it right", n, nodes, nil, w+i, api.ErrNode)
			if i > n {
				// The pad of another leaf is no pad of this one.
				nodes = nodesOf(digests(n, 6))
				nodes[w+i-1] = padOf(i - 1)
				mend(nodes, w+i)
				wantLeaves(t, "the pad ahead", n, nodes, nil, w+i, api.ErrNode)
			}
		}
	}
}

func TestP11_4ALeafLikeAPad(t *testing.T) {
	leaves := digests(4, 7)
	leaves[3] = padOf(3)
	wantLeaves(t, "four, of which one is a pad", 4, nodesOf(leaves), leaves, 0, api.OK)
	wantLeaves(t, "the same as three", 3, nodesOf(leaves), leaves[:3], 0, api.OK)
	wantLeaves(t, "the same as two", 2, nodesOf(leaves), nil, 0, api.ErrNodes)
}

func TestP11_4SeveralFaults(t *testing.T) {
	for seed := range 300 {
		n := []int{3, 5, 6, 7, 8, 11}[seed%6]
		w := widthOf(n)
		nodes := nodesOf(digests(n, 8))
		turn := sha256.Sum256([]byte{byte(seed), byte(seed >> 8), 99})
		for _, c := range turn[:1+seed%3] {
			x := int(c)%(2*w-1) + 1
			nodes[x-1][c%32] ^= c | 1
			if c%2 == 0 {
				mend(nodes, x)
			}
		}
		if at := faultOf(n, nodes); at != 0 {
			wantLeaves(t, "several faults", n, nodes, nil, at, api.ErrNode)
		} else {
			wantLeaves(t, "another tree", n, nodes, nodes[w-1:w-1+n], 0, api.OK)
		}
	}
}

func TestP11_4Example(t *testing.T) {
	d := digests(3, 9)
	nodes := nodesOf(d)
	wantLeaves(t, "the nodes", 3, nodes, d, 0, api.OK)
	nodes[6][0] ^= 1
	wantLeaves(t, "node 7 turned", 3, nodes, nil, 3, api.ErrNode)
	nodes[2] = over(d[2], nodes[6])
	wantLeaves(t, "node 3 right again", 3, nodes, nil, 1, api.ErrNode)
	nodes[0] = over(nodes[1], nodes[2])
	wantLeaves(t, "node 1 right again", 3, nodes, nil, 7, api.ErrNode)
	wantLeaves(t, "four leaves", 4, nodes, nodes[3:], 0, api.OK)
}

func TestP11_4Refused(t *testing.T) {
	for _, n := range noCounts() {
		for _, size := range []int{0, 1, 3, 1023, 1025, 2047} {
			wantLeaves(t, "no such tree", n, make([]api.Digest, size), nil, 0, api.ErrLeaves)
		}
	}
	for _, n := range []int{1, 2, 3, 4, 5, 8, 255, 256, 257, 512} {
		right := 2*widthOf(n) - 1
		for _, size := range []int{0, 1, 2, 3, n, right - 1, right + 1, right + 2, widthOf(n), 2 * right, 2*right + 1} {
			if size != right {
				// The nodes are also no tree: their number is told first.
				wantLeaves(t, "another number of nodes", n, make([]api.Digest, size), nil, 0, api.ErrNodes)
			}
		}
	}
	wantLeaves(t, "no nodes", 1, nil, nil, 0, api.ErrNodes)
}

func TestP11_4OwnMemory(t *testing.T) {
	for _, n := range []int{1, 2, 3, 4, 7, 512} {
		leaves := digests(n, 10)
		nodes, changed := roomy(nodesOf(leaves))
		first, _, _ := tree.Leaves(n, nodes)
		second, _, _ := tree.Leaves(n, nodes)
		spoil(first)
		if changed() || !slices.Equal(second, leaves) {
			t.Errorf("Leaves of %d: the answer shares memory", n)
		}
		spoil(nodes)
		if !slices.Equal(second, leaves) {
			t.Errorf("Leaves of %d: the answer is the argument's memory", n)
		}
	}
}

// wantDiffer holds what Differ answers against what it must, whichever of the two comes first.
func wantDiffer(t *testing.T, what string, a, b []api.Digest, x int) {
	t.Helper()
	a, first := roomy(a)
	b, second := roomy(b)
	for range 2 {
		if got, is := tree.Differ(a, b); got != x || is != (x != 0) {
			t.Errorf("%s: %d, %v instead of %d", what, got, is, x)
		}
		a, b = b, a
	}
	if first() || second() {
		t.Errorf("%s: an argument was changed", what)
	}
}

// differOf reckons the node from the greatest number down.
func differOf(a, b []api.Digest) int {
	at := 0
	for x := len(a) / 2; x >= 1; x-- {
		if a[x-1] == b[x-1] && !slices.Equal(a[2*x-1:2*x+1], b[2*x-1:2*x+1]) {
			at = x
		}
	}
	return at
}

func TestP11_5OneNodeUnlike(t *testing.T) {
	for w := 1; w <= 512; w *= 2 {
		a := digests(2*w-1, 11)
		wantDiffer(t, "the same", a, slices.Clone(a), 0)
		for x := 1; x < 2*w; x++ {
			if w > 32 && x > 4 && x < 2*w-4 && x%37 != 0 {
				continue
			}
			b := slices.Clone(a)
			b[x-1][x%32] ^= 1 << (x % 8)
			wantDiffer(t, "one node unlike", a, b, x/2)
		}
	}
}

func TestP11_5SeveralUnlike(t *testing.T) {
	for seed := range 2000 {
		a := digests(2<<(seed%4)-1, 12)
		b := slices.Clone(a)
		turn := sha256.Sum256([]byte{byte(seed), byte(seed >> 8), 98})
		for _, c := range turn[:1+seed%5] {
			b[int(c)%len(b)][c%32] ^= 1
		}
		wantDiffer(t, "several unlike", a, b, differOf(a, b))
	}
}

func TestP11_5TheLeast(t *testing.T) {
	a := digests(15, 13)
	b := slices.Clone(a)
	for _, x := range []int{15, 13, 11, 9, 7, 5, 3} {
		b[x-1][0] ^= 1
	}
	wantDiffer(t, "nodes 1, 2, 4, 6 are the same above others", a, b, 1)
	b[0][0] ^= 1
	wantDiffer(t, "nodes 2, 4, 6", a, b, 2)
	b[1][0] ^= 1
	wantDiffer(t, "nodes 4, 6", a, b, 4)
	b[3][0] ^= 1
	wantDiffer(t, "node 6", a, b, 6)
	b[5][0] ^= 1
	wantDiffer(t, "none", a, b, 0)
}

func TestP11_5AllUnlike(t *testing.T) {
	for w := 1; w <= 512; w *= 2 {
		wantDiffer(t, "all unlike", digests(2*w-1, 14), digests(2*w-1, 15), 0)
	}
}

func TestP11_5NoTrees(t *testing.T) {
	whole := digests(4100, 16)
	// All of the other list is unlike but the root: each list that is taken for a tree tells node 1.
	other := digests(4100, 17)
	other[0] = whole[0]
	right := map[int]bool{1: true, 3: true, 7: true, 15: true, 31: true, 63: true, 127: true, 255: true, 511: true, 1023: true}
	for n := range 1030 {
		x := 0
		if right[n] && n > 1 {
			x = 1
		}
		wantDiffer(t, "so many", whole[:n], other[:n], x)
	}
	for _, n := range []int{2046, 2047, 2048, 4095} {
		wantDiffer(t, "too many", whole[:n], other[:n], 0)
	}
	for _, c := range [][2]int{{0, 1}, {0, 3}, {1, 3}, {3, 7}, {7, 6}, {7, 8}, {7, 15}, {1023, 1022}, {1023, 1024}, {511, 1023}, {1023, 2047}} {
		wantDiffer(t, "not equally many", whole[:c[0]], other[:c[1]], 0)
	}
	wantDiffer(t, "nothing", nil, nil, 0)
	wantDiffer(t, "nothing", nil, []api.Digest{}, 0)
}

func TestP11_6LeavesOfBuild(t *testing.T) {
	for _, n := range counts() {
		leaves := digests(n, 18)
		nodes, _ := tree.Build(leaves)
		wantLeaves(t, "Build's nodes", n, nodes, leaves, 0, api.OK)
		root, _ := tree.Root(leaves)
		if nodes[0] != root {
			t.Errorf("%d leaves: the first of Build's nodes is not Root", n)
		}
	}
}

// forged gives the nodes of two trees over n leaves, which are unlike from leaf i on up to node x, at which the second has what the first has, and the nodes above it, too: as if it were the digest of both.
func forged(n, i, x int) (a, b []api.Digest) {
	leaves := digests(n, 19)
	a, _ = tree.Build(leaves)
	leaves[i][5] ^= 4
	b, _ = tree.Build(leaves)
	for ; x >= 1; x /= 2 {
		b[x-1] = a[x-1]
	}
	return a, b
}

func TestP11_8UnlikeLeaves(t *testing.T) {
	for _, n := range []int{2, 3, 4, 5, 8, 11, 16, 512} {
		w := widthOf(n)
		for i := range n {
			if n > 100 && i%173 != 0 && i != n-1 {
				continue
			}
			for x := (w + i) / 2; x >= 1; x /= 2 {
				a, b := forged(n, i, x)
				wantDiffer(t, "one root, unlike leaves", a, b, x)
				one, _ := tag.Bytes(api.TagNode, a[2*x-1][:], a[2*x][:])
				two, _ := tag.Bytes(api.TagNode, b[2*x-1][:], b[2*x][:])
				if slices.Equal(one, two) {
					t.Errorf("%d leaves, node %d: its bytes are the same", n, x)
				}
				if got := api.Digest(sha256.Sum256(one)); got != a[x-1] {
					t.Errorf("%d leaves, node %d: its bytes have another digest", n, x)
				}
			}
		}
	}
}

func TestP11_8UnlikeRoots(t *testing.T) {
	for _, n := range []int{1, 2, 3, 5, 8, 11} {
		leaves := digests(n, 20)
		root, _ := tree.Root(leaves)
		for i := range n {
			for bit := range 256 {
				other := slices.Clone(leaves)
				other[i][bit/8] ^= 1 << (bit % 8)
				if got, _ := tree.Root(other); got == root {
					t.Errorf("%d leaves, bit %d of leaf %d turned: the same root", n, bit, i)
				}
			}
		}
		for i := 1; i < n; i++ {
			other := slices.Clone(leaves)
			other[i-1], other[i] = other[i], other[i-1]
			if got, _ := tree.Root(other); got == root {
				t.Errorf("%d leaves, %d and the one ahead exchanged: the same root", n, i)
			}
		}
	}
}
