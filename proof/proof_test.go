package proof_test

import (
	"crypto/sha256"
	"encoding/binary"
	"maps"
	"math"
	"slices"
	"testing"

	"strongroom/api"
	"strongroom/proof"
	"strongroom/tree"
)

// tagged reckons a tagged digest by the library.
func tagged(word string, parts ...[]byte) api.Digest {
	var b []byte
	for _, part := range append([][]byte{[]byte(word)}, parts...) {
		b = binary.BigEndian.AppendUint64(b, uint64(len(part)))
		b = append(b, part...)
	}
	return sha256.Sum256(b)
}

func over(left, right api.Digest) api.Digest { return tagged("strongroom node", left[:], right[:]) }

func padOf(i int) api.Digest {
	return tagged("strongroom pad", binary.BigEndian.AppendUint32(nil, uint32(i)))
}

// digests gives n digests that look like no rule, others for another seed.
func digests(n, seed int) []api.Digest {
	out := make([]api.Digest, n)
	for i := range out {
		out[i] = sha256.Sum256([]byte{byte(i), byte(i >> 8), byte(seed), byte(seed >> 8)})
	}
	return out
}

// widthOf reckons a width by doubling.
func widthOf(leaves int) int {
	w := 1
	for w < leaves {
		w += w
	}
	return w
}

// treeOf reckons the digests of a tree's nodes, by their numbers.
func treeOf(leaves []api.Digest) map[int]api.Digest {
	w := widthOf(len(leaves))
	nodes := map[int]api.Digest{}
	for i := range w {
		if i < len(leaves) {
			nodes[w+i] = leaves[i]
		} else {
			nodes[w+i] = padOf(i)
		}
	}
	for x := w - 1; x >= 1; x-- {
		nodes[x] = over(nodes[2*x], nodes[2*x+1])
	}
	return nodes
}

// firstLeaf gives the number of the first leaf beneath a node, or its own.
func firstLeaf(width, at int) int {
	for at < width {
		at *= 2
	}
	return at - width
}

// atFirst reckons what a new proof knows of a tree: the root, and the nodes beneath which there are pads alone.
func atFirst(leaves int, nodes map[int]api.Digest) map[int]api.Digest {
	known := map[int]api.Digest{}
	for at, d := range nodes {
		if at == 1 || firstLeaf(widthOf(leaves), at) >= leaves {
			known[at] = d
		}
	}
	return known
}

// knownTo gives all that a proof knows, and holds it against itself that it knows nothing of nodes that are not there.
func knownTo(t *testing.T, p *proof.Proof) map[int]api.Digest {
	t.Helper()
	known := map[int]api.Digest{}
	for at := -3; at <= 2*p.Width()+3; at++ {
		d, is := p.Known(at)
		switch {
		case is && (at < 1 || at >= 2*p.Width()):
			t.Errorf("node %d is known, and is not there", at)
		case is:
			known[at] = d
		case d != api.Digest{}:
			t.Errorf("node %d is not known, but has the digest %x", at, d)
		}
	}
	return known
}

// wantKnown holds all that a proof tells without being changed against the nodes that it must know.
func wantKnown(t *testing.T, what string, p *proof.Proof, leaves int, want map[int]api.Digest) {
	t.Helper()
	w := widthOf(leaves)
	if p.Leaves() != leaves || p.Width() != w {
		t.Fatalf("%s: %d leaves, width %d instead of %d, %d", what, p.Leaves(), p.Width(), leaves, w)
	}
	if got := knownTo(t, p); !maps.Equal(got, want) {
		t.Errorf("%s: known are %v instead of %v, or with other digests", what, numbers(got), numbers(want))
	}
	for i := range leaves {
		d, is := p.Leaf(i)
		if wanted, wantedIs := want[w+i]; d != wanted || is != wantedIs {
			t.Errorf("%s: leaf %d is %x, %v instead of %x, %v", what, i, d, is, wanted, wantedIs)
		}
	}
	if p.Whole() != (len(want) == 2*w-1) {
		t.Errorf("%s: whole is %v", what, p.Whole())
	}
}

func numbers(known map[int]api.Digest) []int { return slices.Sorted(maps.Keys(known)) }

// begun gives a new proof of a tree's root.
func begun(t *testing.T, leaves int, root api.Digest) *proof.Proof {
	t.Helper()
	p, e := proof.New(leaves, root)
	if p == nil || e != api.OK {
		t.Fatalf("New of %d leaves: %d", leaves, e)
	}
	return p
}

// pick gives the nodes of a tree that have these numbers.
func pick(nodes map[int]api.Digest, at ...int) []api.Node {
	var out []api.Node
	for _, x := range at {
		out = append(out, api.Node{At: x, Digest: nodes[x]})
	}
	return out
}

func wantPut(t *testing.T, what string, p *proof.Proof, nodes []api.Node, want api.Errno) {
	t.Helper()
	if e := p.Put(nodes); e != want {
		t.Errorf("%s: Put answers %d instead of %d", what, e, want)
	}
}

// counts gives numbers of leaves: all small ones, and those around each power of two.
func counts() []int {
	var out []int
	for n := 1; n <= 20; n++ {
		out = append(out, n)
	}
	return append(out, 31, 32, 33, 63, 64, 65, 100, 127, 128, 129, 255, 256, 257, 384, 385, 511, 512)
}

func TestP12_1New(t *testing.T) {
	for _, n := range counts() {
		nodes := treeOf(digests(n, 1))
		p := begun(t, n, nodes[1])
		wantKnown(t, "a new proof", p, n, atFirst(n, nodes))
	}
}

func TestP12_1AnyRoot(t *testing.T) {
	for _, n := range []int{1, 2, 3, 4, 5, 8, 9, 512} {
		for _, root := range []api.Digest{{}, {1}, padOf(0), padOf(1), over(padOf(0), padOf(1))} {
			nodes := treeOf(digests(n, 2))
			nodes[1] = root
			wantKnown(t, "a root of no tree", begun(t, n, root), n, atFirst(n, nodes))
		}
	}
}

func TestP12_1NoLeafOfAnotherRoot(t *testing.T) {
	for _, n := range []int{2, 3, 4, 5, 7, 8} {
		w := widthOf(n)
		nodes := treeOf(digests(n, 3))
		p := begun(t, n, api.Digest{9})
		want := knownTo(t, p)
		for i := range n {
			chain, _ := tree.Chain(n, i)
			wantPut(t, "a tree of another root", p, pick(nodes, append(chain, w+i)...), api.ErrFalse)
		}
		wantKnown(t, "a tree of another root", p, n, want)
	}
}

func TestP12_1Refused(t *testing.T) {
	for _, n := range []int{0, -1, -2, -512, 513, 514, 1024, 65536, 1 << 32, 1<<32 + 1, math.MinInt, math.MinInt + 1, math.MaxInt} {
		if p, e := proof.New(n, api.Digest{1}); p != nil || e != api.ErrLeaves {
			t.Errorf("New of %d leaves: %v, %d instead of ErrLeaves", n, p, e)
		}
	}
}

func TestP12_1PadsKnownAtOnce(t *testing.T) {
	// Five leaves: 13, 14, 15 stand for none, and so does what is above the last two.
	p := begun(t, 5, api.Digest{4})
	want := map[int]api.Digest{1: {4}, 13: padOf(5), 14: padOf(6), 15: padOf(7), 7: over(padOf(6), padOf(7))}
	wantKnown(t, "five leaves", p, 5, want)
	p = begun(t, 9, api.Digest{4})
	if d, is := p.Known(7); !is || d != over(over(padOf(12), padOf(13)), over(padOf(14), padOf(15))) {
		t.Errorf("nine leaves: node 7 is %x, %v", d, is)
	}
	if d, is := p.Known(13); !is || d != over(padOf(10), padOf(11)) {
		t.Errorf("nine leaves: node 13 is %x, %v", d, is)
	}
	if _, is := p.Known(6); is {
		t.Error("nine leaves: node 6, above leaf 8, is known")
	}
}

func TestP12_2NoSuchNode(t *testing.T) {
	for _, n := range []int{1, 2, 3, 5, 8, 512} {
		nodes := treeOf(digests(n, 4))
		p := begun(t, n, nodes[1])
		w := p.Width()
		wantPut(t, "all leaves", p, pick(nodes, span(w, w+n)...), api.OK)
		for _, at := range []int{0, -1, -w, 2 * w, 2*w + 1, 4 * w, 1 << 32, 1<<32 + 1, math.MinInt, math.MinInt + 1, math.MaxInt} {
			if d, is := p.Known(at); is || d != (api.Digest{}) {
				t.Errorf("%d leaves: Known(%d): %x, %v", n, at, d, is)
			}
		}
		// Of these numbers some would come to nodes that are known: pads, or the root and others above the leaves.
		for _, i := range []int{-1, min(1-w, -1), -w, -w - 1, n, n + 1, w, 2 * w, math.MinInt, math.MinInt + 1, math.MaxInt, math.MaxInt - w + 1} {
			if d, is := p.Leaf(i); is || d != (api.Digest{}) {
				t.Errorf("%d leaves: Leaf(%d): %x, %v", n, i, d, is)
			}
		}
	}
}

// span gives the numbers from first up to the one ahead of end.
func span(first, end int) []int {
	var out []int
	for x := first; x < end; x++ {
		out = append(out, x)
	}
	return out
}

func TestP12_2PadIsNoLeaf(t *testing.T) {
	p := begun(t, 3, api.Digest{1})
	if d, is := p.Leaf(3); is || d != (api.Digest{}) {
		t.Errorf("Leaf(3) of three leaves: %x, %v", d, is)
	}
	if d, is := p.Known(7); !is || d != padOf(3) {
		t.Errorf("Known(7) of three leaves: %x, %v", d, is)
	}
	if d, is := p.Leaf(-3); is || d != (api.Digest{}) {
		t.Errorf("Leaf(-3), which is the root's place: %x, %v", d, is)
	}
}

func TestP12_2DigestOfNoughts(t *testing.T) {
	nodes := treeOf(make([]api.Digest, 2))
	p := begun(t, 2, nodes[1])
	if _, is := p.Leaf(0); is {
		t.Error("a leaf of noughts is known too early")
	}
	wantPut(t, "leaves of noughts", p, pick(nodes, 2, 3), api.OK)
	wantKnown(t, "leaves of noughts", p, 2, nodes)
}

func TestP12_4Example(t *testing.T) {
	nodes := treeOf(digests(3, 5))
	p := begun(t, 3, nodes[1])
	wantNeeds(t, p, 0, api.OK, 5, 3)
	wantNeeds(t, p, 1, api.OK, 4, 3)
	wantNeeds(t, p, 2, api.OK, 2)
	wantNeeds(t, p, 3, api.ErrLeaf)
	wantPut(t, "leaf 2", p, pick(nodes, 6, 2), api.OK)
	wantNeeds(t, p, 0, api.OK, 5)
	wantNeeds(t, p, 1, api.OK, 4)
	wantNeeds(t, p, 2, api.OK)
}

func wantNeeds(t *testing.T, p *proof.Proof, i int, want api.Errno, at ...int) {
	t.Helper()
	if got, e := p.Needs(i); e != want || !slices.Equal(got, at) {
		t.Errorf("Needs(%d) of %d leaves: %v, %d instead of %v, %d", i, p.Leaves(), got, e, at, want)
	}
}

// needsOf reckons what leaf i wants beside itself.
func needsOf(p *proof.Proof, i int) []int {
	var out []int
	for x := p.Width() + i; ; x /= 2 {
		if _, is := p.Known(x); is {
			return out
		}
		brother := x + 1 - 2*(x%2)
		if _, is := p.Known(brother); !is {
			out = append(out, brother)
		}
	}
}

func TestP12_4NeedsProve(t *testing.T) {
	for _, n := range counts() {
		leaves := digests(n, 6)
		nodes := treeOf(leaves)
		p := begun(t, n, nodes[1])
		w := p.Width()
		for round := range n {
			// Steps that go round all leaves, near ones and far ones.
			i := round * 7 % n
			want := needsOf(p, i)
			wantNeeds(t, p, i, api.OK, want...)
			_, was := p.Leaf(i)
			for lack := range want {
				rest := slices.Delete(slices.Clone(want), lack, lack+1)
				if !was {
					wantPut(t, "one that is needed lacks", p, pick(nodes, append(rest, w+i)...), api.ErrLoose)
				}
			}
			wantPut(t, "all that is needed", p, pick(nodes, append(want, w+i)...), api.OK)
			if d, is := p.Leaf(i); !is || d != leaves[i] {
				t.Errorf("%d leaves: leaf %d is not proved", n, i)
			}
			wantNeeds(t, p, i, api.OK)
		}
	}
}

func TestP12_4KnownAbove(t *testing.T) {
	nodes := treeOf(digests(8, 7))
	p := begun(t, 8, nodes[1])
	wantNeeds(t, p, 0, api.OK, 9, 5, 3)
	wantNeeds(t, p, 7, api.OK, 14, 6, 2)
	wantPut(t, "the row of four", p, pick(nodes, 4, 5, 6, 7), api.OK)
	for i := range 8 {
		wantNeeds(t, p, i, api.OK, (8+i)^1)
	}
	wantPut(t, "leaf 3 with its brother", p, pick(nodes, 11, 10), api.OK)
	wantNeeds(t, p, 2, api.OK)
	wantNeeds(t, p, 3, api.OK)
}

func TestP12_4KnownBrothers(t *testing.T) {
	// Five leaves: all beside leaf 4's way is known but node 2.
	nodes := treeOf(digests(5, 8))
	p := begun(t, 5, nodes[1])
	wantNeeds(t, p, 4, api.OK, 2)
	wantNeeds(t, p, 0, api.OK, 9, 5, 3)
	wantPut(t, "nodes 2 and 3", p, pick(nodes, 2, 3), api.OK)
	wantNeeds(t, p, 4, api.OK)
	wantNeeds(t, p, 0, api.OK, 9, 5)
	wantPut(t, "leaf 4 alone", p, pick(nodes, 12), api.OK)
	wantNeeds(t, begun(t, 1, api.Digest{}), 0, api.OK)
}

// noLeaves gives numbers that are no leaf's of n.
func noLeaves(n int) []int {
	return []int{-1, -2, -n, n, n + 1, 2 * n, min(1-widthOf(n), -1), widthOf(n), 1 << 32, -1 << 32, math.MinInt, math.MaxInt}
}

func TestP12_4Refused(t *testing.T) {
	for _, n := range counts() {
		p := begun(t, n, api.Digest{1})
		for _, i := range noLeaves(n) {
			wantNeeds(t, p, i, api.ErrLeaf)
		}
	}
}

func TestP12_4OwnMemory(t *testing.T) {
	p := begun(t, 8, api.Digest{1})
	want := knownTo(t, p)
	first, _ := p.Needs(0)
	second, _ := p.Needs(0)
	first = first[:cap(first)]
	for i := range first {
		first[i] = -1
	}
	if !slices.Equal(second, []int{9, 5, 3}) {
		t.Errorf("Needs: its answers share memory: %v", second)
	}
	wantNeeds(t, p, 0, api.OK, 9, 5, 3)
	wantKnown(t, "Needs", p, 8, want)
}

func wantChain(t *testing.T, p *proof.Proof, i int, want api.Errno, nodes ...api.Node) {
	t.Helper()
	if got, e := p.Chain(i); e != want || !slices.Equal(got, nodes) {
		t.Errorf("Chain(%d) of %d leaves: %v, %d instead of %v, %d", i, p.Leaves(), got, e, nodes, want)
	}
}

func TestP12_5Example(t *testing.T) {
	nodes := treeOf(digests(3, 9))
	p := begun(t, 3, nodes[1])
	for i := range 3 {
		wantChain(t, p, i, api.ErrProved)
	}
	wantPut(t, "leaf 2", p, pick(nodes, 6, 2), api.OK)
	wantChain(t, p, 2, api.OK, api.Node{At: 7, Digest: padOf(3)}, api.Node{At: 2, Digest: nodes[2]})
	wantChain(t, p, 0, api.ErrProved)
	wantChain(t, p, 1, api.ErrProved)
	wantChain(t, p, 3, api.ErrLeaf)
	wantChain(t, begun(t, 1, api.Digest{5}), 0, api.OK)
}

func TestP12_5AllLeaves(t *testing.T) {
	for _, n := range counts() {
		nodes := treeOf(digests(n, 10))
		p := begun(t, n, nodes[1])
		w := p.Width()
		for i := range n {
			if _, was := p.Leaf(i); !was {
				wantChain(t, p, i, api.ErrProved)
				wantPut(t, "a leaf with all beside its way", p, pick(nodes, append(needsOf(p, i), w+i)...), api.OK)
			}
			var want []api.Node
			for x := w + i; x > 1; x /= 2 {
				want = append(want, pick(nodes, x+1-2*(x%2))...)
			}
			wantChain(t, p, i, api.OK, want...)
		}
	}
}

func TestP12_5Refused(t *testing.T) {
	for _, n := range counts() {
		nodes := treeOf(digests(n, 11))
		for _, leaves := range [][]int{nil, span(widthOf(n), widthOf(n)+n)} {
			p := begun(t, n, nodes[1])
			wantPut(t, "no leaf, or all", p, pick(nodes, leaves...), api.OK)
			for _, i := range noLeaves(n) {
				wantChain(t, p, i, api.ErrLeaf)
			}
		}
	}
}

func TestP12_5OwnMemory(t *testing.T) {
	nodes := treeOf(digests(5, 12))
	p := begun(t, 5, nodes[1])
	wantPut(t, "all leaves", p, pick(nodes, 8, 9, 10, 11, 12), api.OK)
	first, _ := p.Chain(4)
	second, _ := p.Chain(4)
	first = first[:cap(first)]
	for i := range first {
		first[i] = api.Node{At: -1, Digest: api.Digest{0xa5}}
	}
	if want := pick(nodes, 13, 7, 2); !slices.Equal(second, want) {
		t.Errorf("Chain: its answers share memory: %v", second)
	}
	wantKnown(t, "Chain", p, 5, nodes)
}

func TestP12_6Whole(t *testing.T) {
	for _, n := range counts() {
		nodes := treeOf(digests(n, 13))
		p := begun(t, n, nodes[1])
		for i := range n {
			if p.Whole() != (len(knownTo(t, p)) == len(nodes)) {
				t.Errorf("%d leaves, %d put: whole is %v", n, i, p.Whole())
			}
			wantPut(t, "a leaf", p, pick(nodes, append(needsOf(p, i), p.Width()+i)...), api.OK)
		}
		if !p.Whole() {
			t.Errorf("%d leaves, all put: not whole", n)
		}
		wantKnown(t, "all leaves", p, n, nodes)
	}
}

func TestP12_6NotWhole(t *testing.T) {
	// All but one pair of leaves is known.
	nodes := treeOf(digests(8, 14))
	for pair := 4; pair < 8; pair++ {
		p := begun(t, 8, nodes[1])
		wantPut(t, "all inner nodes", p, pick(nodes, span(2, 8)...), api.OK)
		for x := 4; x < 8; x++ {
			if x != pair {
				wantPut(t, "a pair", p, pick(nodes, 2*x, 2*x+1), api.OK)
			}
		}
		if p.Whole() {
			t.Errorf("the pair beneath %d lacks: whole", pair)
		}
		wantPut(t, "the last pair", p, pick(nodes, 2*pair, 2*pair+1), api.OK)
		if !p.Whole() {
			t.Errorf("the pair beneath %d is there: not whole", pair)
		}
	}
}

func TestP12_6Clone(t *testing.T) {
	for _, n := range []int{1, 2, 3, 5, 8, 512} {
		nodes := treeOf(digests(n, 15))
		p := begun(t, n, nodes[1])
		young := knownTo(t, p)
		first := p.Clone()
		wantKnown(t, "a clone of a new proof", first, n, young)
		all := pick(nodes, span(p.Width(), p.Width()+n)...)
		wantPut(t, "into the clone", first, all, api.OK)
		wantKnown(t, "the clone", first, n, nodes)
		wantKnown(t, "what was cloned", p, n, young)

		second := p.Clone()
		wantPut(t, "into what was cloned", p, all, api.OK)
		wantKnown(t, "what was cloned", p, n, nodes)
		wantKnown(t, "the clone", second, n, young)
		wantKnown(t, "a clone of a clone", second.Clone(), n, young)
		wantKnown(t, "a clone of all", p.Clone(), n, nodes)
		if p.Clone() == p {
			t.Error("a clone is the same proof")
		}
	}
}

func TestP12_6CloneRefuses(t *testing.T) {
	nodes := treeOf(digests(4, 16))
	p := begun(t, 4, nodes[1])
	wantPut(t, "a row", p, pick(nodes, 2, 3), api.OK)
	want := knownTo(t, p)
	c := p.Clone()
	wantPut(t, "a loose leaf", c, pick(nodes, 4), api.ErrLoose)
	wantPut(t, "another root", c, []api.Node{{At: 1}}, api.ErrOther)
	wantNeeds(t, c, 0, api.OK, 5)
	wantKnown(t, "the clone", c, 4, want)
	wantKnown(t, "what was cloned", p, 4, want)
}

func TestP12_7NoProof(t *testing.T) {
	for _, p := range []*proof.Proof{nil, {}, new(proof.Proof)} {
		if p.Leaves() != 0 || p.Width() != 0 || p.Whole() || p.Clone() != nil {
			t.Errorf("%v: %d leaves, width %d, whole %v, clone %v", p, p.Leaves(), p.Width(), p.Whole(), p.Clone())
		}
		for _, i := range []int{0, 1, -1, 2, 512, math.MinInt, math.MaxInt} {
			if d, is := p.Known(i); is || d != (api.Digest{}) {
				t.Errorf("%v: Known(%d): %x, %v", p, i, d, is)
			}
			if d, is := p.Leaf(i); is || d != (api.Digest{}) {
				t.Errorf("%v: Leaf(%d): %x, %v", p, i, d, is)
			}
			wantNeeds(t, p, i, api.ErrNil)
			wantChain(t, p, i, api.ErrNil)
		}
		for _, nodes := range [][]api.Node{nil, {}, {{At: 1}}, {{At: 0}}, {{At: 1}, {At: 1, Digest: api.Digest{1}}}, {{At: -5}}} {
			wantPut(t, "no proof", p, nodes, api.ErrNil)
		}
		if p.Leaves() != 0 || p.Whole() {
			t.Errorf("%v: something has come of a Put", p)
		}
	}
}
