package tree_test

import (
	"math"
	"slices"
	"testing"

	"strongroom/api"
	"strongroom/tree"
)

// upOf reckons the numbers of the nodes from a leaf up: in each row the leaf's number is halved.
func upOf(n, leaf int) []int {
	var out []int
	for w := widthOf(n); w >= 1; w /= 2 {
		out = append(out, w+leaf)
		leaf /= 2
	}
	return out
}

// chainOf reckons the numbers of the nodes beside the way up.
func chainOf(n, leaf int) []int {
	var out []int
	for _, x := range upOf(n, leaf) {
		switch {
		case x == 1:
		case x%2 == 0:
			out = append(out, x+1)
		default:
			out = append(out, x-1)
		}
	}
	return out
}

// noLeaves gives numbers of which a tree over n leaves has no leaf.
func noLeaves(n int) []int {
	return []int{n, n + 1, widthOf(n), 2 * widthOf(n), 512, 513, 1 << 32, -1, -2, -n, -widthOf(n), math.MinInt, math.MinInt + 1, math.MaxInt}
}

func wantUp(t *testing.T, n, leaf int, want []int) {
	t.Helper()
	up := tree.Up(n, leaf)
	if up == nil {
		t.Fatalf("Up(%d, %d) is nil", n, leaf)
	}
	for range 3 {
		if got := slices.Collect(up); !slices.Equal(got, want) {
			t.Errorf("Up(%d, %d): %v instead of %v", n, leaf, got, want)
		}
	}
}

func TestP11_2Chain(t *testing.T) {
	for _, n := range counts() {
		for i := range n {
			got, e := tree.Chain(n, i)
			if want := chainOf(n, i); e != api.OK || !slices.Equal(got, want) {
				t.Errorf("Chain(%d, %d): %v, %d instead of %v", n, i, got, e, want)
			}
			wantUp(t, n, i, upOf(n, i))
		}
	}
}

func TestP11_2Example(t *testing.T) {
	for _, c := range []struct {
		n, leaf   int
		chain, up []int
	}{
		{3, 2, []int{7, 2}, []int{6, 3, 1}},
		{3, 0, []int{5, 3}, []int{4, 2, 1}},
		{3, 1, []int{4, 3}, []int{5, 2, 1}},
		{1, 0, nil, []int{1}},
		{2, 1, []int{2}, []int{3, 1}},
		{512, 511, []int{1022, 510, 254, 126, 62, 30, 14, 6, 2}, []int{1023, 511, 255, 127, 63, 31, 15, 7, 3, 1}},
	} {
		if got, e := tree.Chain(c.n, c.leaf); e != api.OK || !slices.Equal(got, c.chain) {
			t.Errorf("Chain(%d, %d): %v, %d instead of %v", c.n, c.leaf, got, e, c.chain)
		}
		wantUp(t, c.n, c.leaf, c.up)
	}
	if got, e := tree.Chain(3, 3); len(got) != 0 || e != api.ErrLeaf {
		t.Errorf("Chain(3, 3): %v, %d instead of ErrLeaf", got, e)
	}
}

func TestP11_2Refused(t *testing.T) {
	for _, n := range noCounts() {
		for _, leaf := range []int{0, 1, -1, n, n - 1, math.MinInt, math.MaxInt} {
			if got, e := tree.Chain(n, leaf); len(got) != 0 || e != api.ErrLeaves {
				t.Errorf("Chain(%d, %d): %v, %d instead of ErrLeaves", n, leaf, got, e)
			}
			wantUp(t, n, leaf, nil)
		}
	}
	for _, n := range []int{1, 2, 3, 4, 5, 7, 8, 100, 512} {
		for _, leaf := range noLeaves(n) {
			if leaf >= 0 && leaf < n {
				continue
			}
			if got, e := tree.Chain(n, leaf); len(got) != 0 || e != api.ErrLeaf {
				t.Errorf("Chain(%d, %d): %v, %d instead of ErrLeaf", n, leaf, got, e)
			}
			wantUp(t, n, leaf, nil)
		}
	}
}

func TestP11_2UpLeftEarly(t *testing.T) {
	for _, n := range []int{1, 2, 3, 5, 9, 512} {
		up := tree.Up(n, n-1)
		whole := upOf(n, n-1)
		for most := 1; most <= len(whole); most++ {
			var got []int
			for x := range up {
				got = append(got, x)
				if len(got) == most {
					break
				}
			}
			if !slices.Equal(got, whole[:most]) {
				t.Errorf("Up(%d, %d), left behind %d: %v instead of %v", n, n-1, most, got, whole[:most])
			}
			if again := slices.Collect(up); !slices.Equal(again, whole) {
				t.Errorf("Up(%d, %d), again: %v instead of %v", n, n-1, again, whole)
			}
		}
	}
}

func TestP11_2UpWithinItself(t *testing.T) {
	up := tree.Up(100, 77)
	whole := upOf(100, 77)
	var outer []int
	for x := range up {
		outer = append(outer, x)
		if inner := slices.Collect(up); !slices.Equal(inner, whole) {
			t.Errorf("at %d: %v instead of %v", x, inner, whole)
		}
	}
	if !slices.Equal(outer, whole) {
		t.Errorf("%v instead of %v", outer, whole)
	}
}

func TestP11_2OwnMemory(t *testing.T) {
	first, _ := tree.Chain(512, 300)
	second, _ := tree.Chain(512, 300)
	for i := range first[:cap(first)] {
		first[:cap(first)][i] = -1
	}
	if third, _ := tree.Chain(512, 300); !slices.Equal(second, chainOf(512, 300)) || !slices.Equal(third, second) {
		t.Errorf("answers share memory: %v, %v", second, third)
	}
}

// climbOf reckons a root by the rows of numbers: where a leaf's number in its row is odd, it stands to the right.
func climbOf(leaf int, d api.Digest, chain []api.Digest) api.Digest {
	for _, beside := range chain {
		if leaf%2 == 1 {
			d = over(beside, d)
		} else {
			d = over(d, beside)
		}
		leaf /= 2
	}
	return d
}

func wantClimb(t *testing.T, n, leaf int, d api.Digest, chain []api.Digest, want api.Digest, wanted api.Errno) {
	t.Helper()
	chain, changed := roomy(chain)
	if got, e := tree.Climb(n, leaf, d, chain); got != want || e != wanted {
		t.Errorf("Climb(%d, %d, .., %d digests): %x, %d instead of %x, %d", n, leaf, len(chain), got, e, want, wanted)
	}
	if changed() {
		t.Errorf("Climb(%d, %d, .., %d digests): the chain was changed", n, leaf, len(chain))
	}
}

func TestP11_3AnyChain(t *testing.T) {
	for _, n := range counts() {
		for i := range n {
			if n > 130 && i%29 != 0 && i != n-1 {
				continue
			}
			d, chain := digests(1, i)[0], digests(len(chainOf(n, i)), 1000+n)
			wantClimb(t, n, i, d, chain, climbOf(i, d, chain), api.OK)
		}
	}
}

func TestP11_3Example(t *testing.T) {
	d := digests(3, 21)
	a, b := over(d[0], d[1]), over(d[2], padOf(3))
	wantClimb(t, 3, 2, d[2], []api.Digest{padOf(3), a}, over(a, b), api.OK)
	wantClimb(t, 3, 0, d[0], []api.Digest{d[1], b}, over(a, b), api.OK)
	wantClimb(t, 3, 1, d[1], []api.Digest{d[0], b}, over(a, b), api.OK)
	wantClimb(t, 3, 2, d[2], []api.Digest{padOf(3)}, api.Digest{}, api.ErrNodes)
	wantClimb(t, 1, 0, d[0], nil, d[0], api.OK)
	wantClimb(t, 1, 0, api.Digest{}, []api.Digest{}, api.Digest{}, api.OK)
	wantClimb(t, 1, 0, d[0], d[1:2], api.Digest{}, api.ErrNodes)
}

func TestP11_3Refused(t *testing.T) {
	d := digests(1, 22)[0]
	for _, n := range noCounts() {
		for _, leaf := range []int{0, -1, n, math.MinInt, math.MaxInt} {
			for _, size := range []int{0, 1, 9, 10} {
				wantClimb(t, n, leaf, d, make([]api.Digest, size), api.Digest{}, api.ErrLeaves)
			}
		}
	}
	for _, n := range []int{1, 2, 3, 4, 5, 7, 8, 100, 512} {
		right := len(chainOf(n, 0))
		for _, leaf := range noLeaves(n) {
			if leaf >= 0 && leaf < n {
				continue
			}
			for _, size := range []int{0, right, right + 1} {
				wantClimb(t, n, leaf, d, make([]api.Digest, size), api.Digest{}, api.ErrLeaf)
			}
		}
		for size := range right + 20 {
			if size != right {
				wantClimb(t, n, n-1, d, make([]api.Digest, size), api.Digest{}, api.ErrNodes)
			}
		}
		wantClimb(t, n, 0, d, make([]api.Digest, 2000), api.Digest{}, api.ErrNodes)
	}
}

func TestP11_6ClimbIsRoot(t *testing.T) {
	for _, n := range counts() {
		leaves := digests(n, 23)
		nodes, _ := tree.Build(leaves)
		root, _ := tree.Root(leaves)
		for i := range n {
			numbers, e := tree.Chain(n, i)
			if e != api.OK {
				t.Fatalf("Chain(%d, %d): %d", n, i, e)
			}
			var chain []api.Digest
			for _, x := range numbers {
				chain = append(chain, nodes[x-1])
			}
			wantClimb(t, n, i, leaves[i], chain, root, api.OK)
		}
	}
}

func TestP11_7UnlikeDigests(t *testing.T) {
	for _, n := range []int{1, 2, 3, 5, 9, 512} {
		for _, i := range []int{0, n / 2, n - 1} {
			d := digests(1, 24)[0]
			chain := digests(len(chainOf(n, i)), 25)
			root, _ := tree.Climb(n, i, d, chain)
			for bit := range 256 {
				other := d
				other[bit/8] ^= 1 << (bit % 8)
				if got, _ := tree.Climb(n, i, other, chain); got == root {
					t.Errorf("Climb(%d, %d, ..), bit %d of the leaf turned: the same root", n, i, bit)
				}
			}
		}
	}
}

func TestP11_7UnlikeChains(t *testing.T) {
	for _, n := range []int{2, 3, 5, 9, 512} {
		for _, i := range []int{0, n / 2, n - 1} {
			d := digests(1, 26)[0]
			chain := digests(len(chainOf(n, i)), 27)
			root, _ := tree.Climb(n, i, d, chain)
			for at := range chain {
				for bit := range 256 {
					other := slices.Clone(chain)
					other[at][bit/8] ^= 1 << (bit % 8)
					if got, _ := tree.Climb(n, i, d, other); got == root {
						t.Errorf("Climb(%d, %d, ..), bit %d of digest %d of the chain turned: the same root", n, i, bit, at)
					}
				}
			}
		}
	}
}

func TestP11_7LeftAndRight(t *testing.T) {
	// A leaf with its brother is the same pair from both sides; exchanged, the two are another pair.
	d := digests(2, 28)
	left, _ := tree.Climb(2, 0, d[0], d[1:])
	right, _ := tree.Climb(2, 1, d[1], d[:1])
	crossed, _ := tree.Climb(2, 0, d[1], d[:1])
	if left != right || left == crossed {
		t.Errorf("%x, %x, %x: the first two are one, the third another", left, right, crossed)
	}
}
