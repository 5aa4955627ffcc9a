package proof_test

import (
	"maps"
	"math"
	"math/rand/v2"
	"slices"
	"testing"

	"strongroom/api"
	"strongroom/proof"
	"strongroom/tree"
)

// sample gives the tree of the chapter's examples.
func sample() map[int]api.Digest { return treeOf(digests(3, 20)) }

func TestP12_3ExampleKnown(t *testing.T) {
	nodes := sample()
	p := begun(t, 3, nodes[1])
	wantKnown(t, "at first", p, 3, map[int]api.Digest{1: nodes[1], 7: padOf(3)})
	wantPut(t, "leaf 2", p, pick(nodes, 6, 2), api.OK)
	want := maps.Clone(nodes)
	delete(want, 4)
	delete(want, 5)
	wantKnown(t, "behind it", p, 3, want)
}

func TestP12_3ExampleLoose(t *testing.T) {
	nodes := sample()
	p := begun(t, 3, nodes[1])
	wantPut(t, "leaves 0 and 1", p, pick(nodes, 4, 5), api.ErrLoose)
	wantKnown(t, "refused", p, 3, atFirst(3, nodes))
	wantPut(t, "with node 3", p, pick(nodes, 4, 5, 3), api.OK)
	want := maps.Clone(nodes)
	delete(want, 6)
	wantKnown(t, "behind it", p, 3, want)
}

func TestP12_3ExampleOneLeaf(t *testing.T) {
	d := api.Digest{5}
	p := begun(t, 1, d)
	wantKnown(t, "one leaf", p, 1, map[int]api.Digest{1: d})
	wantPut(t, "the root", p, []api.Node{{At: 1, Digest: d}}, api.OK)
	wantPut(t, "nothing", p, nil, api.OK)
	wantPut(t, "another root", p, []api.Node{{At: 1}}, api.ErrOther)
	wantPut(t, "node 2", p, []api.Node{{At: 2, Digest: d}}, api.ErrNoNode)
	wantPut(t, "node 0", p, []api.Node{{At: 0, Digest: d}}, api.ErrNoNode)
	wantKnown(t, "one leaf", p, 1, map[int]api.Digest{1: d})
}

func TestP12_3Refused(t *testing.T) {
	nodes := sample()
	x := api.Digest{99}
	a, b := nodes[4], nodes[5]
	for i, c := range []struct {
		list []api.Node
		want api.Errno
	}{
		{[]api.Node{{At: 6, Digest: x}, {At: 2, Digest: nodes[2]}}, api.ErrFalse},
		{[]api.Node{{At: 6, Digest: nodes[6]}, {At: 2, Digest: x}}, api.ErrFalse},
		{[]api.Node{{At: 2, Digest: nodes[3]}, {At: 3, Digest: nodes[2]}}, api.ErrFalse},
		{[]api.Node{{At: 4, Digest: b}, {At: 5, Digest: a}, {At: 3, Digest: nodes[3]}}, api.ErrFalse},
		{[]api.Node{{At: 2, Digest: x}, {At: 4, Digest: a}, {At: 5, Digest: b}}, api.ErrFalse},
		{[]api.Node{{At: 3, Digest: x}, {At: 6, Digest: nodes[6]}}, api.ErrFalse},
		{[]api.Node{{At: 7, Digest: x}}, api.ErrOther},
		{[]api.Node{{At: 1, Digest: x}}, api.ErrOther},
		{[]api.Node{{At: 1}}, api.ErrOther},
		{[]api.Node{{At: 4, Digest: a}, {At: 4, Digest: b}}, api.ErrOther},
		{[]api.Node{{At: 4, Digest: a}, {At: 4}}, api.ErrOther},
		{[]api.Node{{At: 4}, {At: 4, Digest: a}}, api.ErrOther},
		{[]api.Node{{At: 4, Digest: a}, {At: 4, Digest: a}, {At: 4, Digest: b}}, api.ErrOther},
		{[]api.Node{{At: 8, Digest: x}, {At: 0, Digest: x}}, api.ErrNoNode},
		{[]api.Node{{At: 8, Digest: x}}, api.ErrNoNode},
		{[]api.Node{{At: 0, Digest: x}}, api.ErrNoNode},
		{[]api.Node{{At: -1}}, api.ErrNoNode},
		{[]api.Node{{At: math.MinInt}}, api.ErrNoNode},
		{[]api.Node{{At: math.MaxInt}}, api.ErrNoNode},
		{[]api.Node{{At: 1 << 32}}, api.ErrNoNode},
		{pick(nodes, 2), api.ErrLoose},
		{pick(nodes, 3), api.ErrLoose},
		{pick(nodes, 4), api.ErrLoose},
		{pick(nodes, 6), api.ErrLoose},
		{pick(nodes, 6, 3), api.ErrLoose},
		{pick(nodes, 2, 4, 5), api.ErrLoose},
		{pick(nodes, 2, 3, 4), api.ErrLoose},
		{pick(nodes, 6, 2, 5), api.ErrLoose},
		{pick(nodes, 1, 7, 5), api.ErrLoose},
	} {
		p := begun(t, 3, nodes[1])
		if e := p.Put(c.list); e != c.want {
			t.Errorf("list %d: %d instead of %d", i, e, c.want)
		}
		wantKnown(t, "refused", p, 3, atFirst(3, nodes))
		wantPut(t, "all leaves, behind what was refused", p, pick(nodes, 4, 5, 6), api.OK)
		wantKnown(t, "taken", p, 3, nodes)
		want := c.want
		switch want {
		case api.ErrLoose:
			want = api.OK // the lists of loose nodes are the tree's own
		case api.ErrFalse:
			want = api.ErrOther // now it is known what they should be
		}
		if e := p.Put(c.list); e != want {
			t.Errorf("list %d, when all is known: %d instead of %d", i, e, want)
		}
		wantKnown(t, "when all is known", p, 3, nodes)
	}
}

func TestP12_3CountsForNothing(t *testing.T) {
	nodes := sample()
	p := begun(t, 3, nodes[1])
	for _, list := range [][]api.Node{nil, {}, pick(nodes, 1), pick(nodes, 7), pick(nodes, 1, 7, 7, 1)} {
		wantPut(t, "nothing that is new", p, list, api.OK)
		wantKnown(t, "nothing that is new", p, 3, atFirst(3, nodes))
	}
	wantPut(t, "known nodes and one twice", p, pick(nodes, 1, 6, 7, 6, 2, 6, 2, 1), api.OK)
	wantPut(t, "the same once more", p, pick(nodes, 6, 2), api.OK)
	wantPut(t, "a node that came of others", p, pick(nodes, 3), api.OK)
	wantPut(t, "what is left", p, pick(nodes, 5, 3, 4, 2, 4), api.OK)
	wantPut(t, "all", p, pick(nodes, 1, 2, 3, 4, 5, 6, 7), api.OK)
	wantKnown(t, "all", p, 3, nodes)
}

func TestP12_3WhichErrorFirst(t *testing.T) {
	nodes := sample()
	p := begun(t, 3, nodes[1])
	bad, other, twice := api.Node{At: 8}, api.Node{At: 7}, pick(nodes, 4)[0]
	wrong := api.Node{At: 4, Digest: api.Digest{99}}
	for i, c := range []struct {
		list []api.Node
		want api.Errno
	}{
		{[]api.Node{bad, other}, api.ErrNoNode},
		{[]api.Node{other, bad}, api.ErrOther},
		{[]api.Node{twice, wrong, bad}, api.ErrOther},
		{[]api.Node{twice, bad, wrong}, api.ErrNoNode},
		{[]api.Node{twice, {At: -1}, other}, api.ErrNoNode},
		// Errors of the list come ahead of what its nodes come to, wherever they stand.
		{append(pick(nodes, 3), api.Node{At: 2, Digest: api.Digest{1}}, bad), api.ErrNoNode},
		{append(pick(nodes, 3), api.Node{At: 2, Digest: api.Digest{1}}, other), api.ErrOther},
		{append(pick(nodes, 4), bad), api.ErrNoNode},
		{append(pick(nodes, 4), other), api.ErrOther},
		// What is false is told ahead of what is loose: here leaf 0 is loose, and nodes 2 and 3 are no children of the root.
		{append(pick(nodes, 4, 3), api.Node{At: 2, Digest: api.Digest{1}}), api.ErrFalse},
		// Node 2 is not what its children come to, and nothing holds it.
		{append(pick(nodes, 4, 5), api.Node{At: 2, Digest: api.Digest{1}}), api.ErrFalse},
	} {
		if e := p.Put(c.list); e != c.want {
			t.Errorf("list %d: %d instead of %d", i, e, c.want)
		}
		wantKnown(t, "refused", p, 3, atFirst(3, nodes))
	}
}

func TestP12_3ListNodeThatComesOfOthers(t *testing.T) {
	// The list has both the children and what is above them, at every height.
	nodes := treeOf(digests(8, 21))
	all := span(2, 16)
	p := begun(t, 8, nodes[1])
	wantPut(t, "all nodes", p, pick(nodes, all...), api.OK)
	wantKnown(t, "all nodes", p, 8, nodes)
	for _, x := range all {
		p := begun(t, 8, nodes[1])
		list := pick(nodes, all...)
		list[x-2].Digest[x%32] ^= 1
		wantPut(t, "one of all turned", p, list, api.ErrFalse)
		wantKnown(t, "one of all turned", p, 8, atFirst(8, nodes))
	}
}

func TestP12_3RisesToWhatIsKnown(t *testing.T) {
	// Leaves come to a node in the midst that is known: it must be what they come to, though the root is far.
	nodes := treeOf(digests(16, 22))
	p := begun(t, 16, nodes[1])
	wantPut(t, "a row", p, pick(nodes, 4, 5, 6, 7), api.OK)
	want := knownTo(t, p)
	list := pick(nodes, 20, 21, 22, 23)
	for i := range list {
		wrong := slices.Clone(list)
		wrong[i].Digest[7] ^= 128
		wantPut(t, "one of four leaves turned", p, wrong, api.ErrFalse)
		wantPut(t, "one of four leaves lacks", p, slices.Delete(slices.Clone(list), i, i+1), api.ErrLoose)
		wantKnown(t, "refused", p, 16, want)
	}
	wantPut(t, "four leaves", p, list, api.OK)
	for _, n := range append(list, pick(nodes, 10, 11)...) {
		want[n.At] = n.Digest
	}
	wantKnown(t, "four leaves", p, 16, want)
}

func TestP12_3LooseBeneathOthers(t *testing.T) {
	nodes := treeOf(digests(8, 23))
	for _, c := range []struct {
		list []int
		want api.Errno
	}{
		{[]int{8, 9}, api.ErrLoose},
		{[]int{8, 9, 5}, api.ErrLoose},
		{[]int{8, 9, 3}, api.ErrLoose},
		{[]int{8, 9, 5, 3}, api.OK},
		{[]int{8, 5, 3}, api.ErrLoose},
		{[]int{8, 9, 4, 2, 3}, api.ErrLoose},
		{[]int{8, 9, 4, 5, 2, 3}, api.OK},
		{[]int{2, 3}, api.OK},
		{[]int{2, 3, 8, 9}, api.ErrLoose},
		{[]int{2, 3, 15}, api.ErrLoose},
		{[]int{4, 5, 6, 7}, api.OK},
		{[]int{4, 5, 12, 13, 14, 15}, api.OK},
		{[]int{8, 9, 10, 11, 12, 13, 14}, api.ErrLoose},
		{[]int{8, 9, 10, 11, 12, 13, 14, 15}, api.OK},
	} {
		p := begun(t, 8, nodes[1])
		wantPut(t, "of eight leaves", p, pick(nodes, c.list...), c.want)
		if c.want != api.OK {
			wantKnown(t, "refused", p, 8, atFirst(8, nodes))
		}
	}
}

func TestP12_3WholeTreesAtOnce(t *testing.T) {
	for _, n := range counts() {
		nodes := treeOf(digests(n, 24))
		w := widthOf(n)
		list := pick(nodes, span(w, w+n)...)
		p := begun(t, n, nodes[1])
		if n > 1 {
			wrong := slices.Clone(list)
			wrong[n/2].Digest[0] ^= 1
			wantPut(t, "a leaf turned", p, wrong, api.ErrFalse)
			wantPut(t, "the first leaf lacks", p, list[1:], api.ErrLoose)
			wantKnown(t, "refused", p, n, atFirst(n, nodes))
		}
		wantPut(t, "all leaves", p, list, api.OK)
		wantKnown(t, "all leaves", p, n, nodes)
	}
}

func TestP12_3LongList(t *testing.T) {
	nodes := sample()
	p := begun(t, 3, nodes[1])
	list := slices.Repeat(pick(nodes, 6, 2, 1, 7), 50000)
	wantPut(t, "a long list and a wrong end", p, append(slices.Clone(list), api.Node{At: 6}), api.ErrOther)
	wantKnown(t, "refused", p, 3, atFirst(3, nodes))
	wantPut(t, "a long list", p, list, api.OK)
}

func TestP12_3ArgumentsStay(t *testing.T) {
	nodes := sample()
	for _, numbers := range [][]int{{6, 2}, {4, 5}, {6, 7, 2, 6}, nil} {
		p := begun(t, 3, nodes[1])
		all := append(pick(nodes, numbers...), api.Node{At: 77}, api.Node{At: 78})
		was := slices.Clone(all)
		list := all[:len(numbers)]
		e := p.Put(list)
		if !slices.Equal(all, was) {
			t.Errorf("Put of %v: its argument was changed", numbers)
		}
		want := knownTo(t, p)
		for i := range all {
			all[i] = api.Node{At: 5, Digest: api.Digest{1}}
		}
		wantKnown(t, "the list is overwritten", p, 3, want)
		if e == api.OK {
			wantPut(t, "what is left", p, pick(nodes, 2, 3, 4, 5, 6), api.OK)
		}
	}
}

// reckoning is a proof as the chapter's words make it: each list goes into a copy of what is known.
type reckoning struct {
	leaves, width int
	known         map[int]api.Digest
}

func (r *reckoning) put(nodes []api.Node) api.Errno {
	hand := maps.Clone(r.known)
	for _, n := range nodes {
		if n.At <= 0 || n.At > 2*r.width-1 {
			return api.ErrNoNode
		}
		if d, is := hand[n.At]; is && d != n.Digest {
			return api.ErrOther
		}
		hand[n.At] = n.Digest
	}
	for x := r.width - 1; x >= 1; x-- {
		left, isLeft := hand[2*x]
		right, isRight := hand[2*x+1]
		if !isLeft || !isRight {
			continue
		}
		must := over(left, right)
		if d, is := hand[x]; is && d != must {
			return api.ErrFalse
		}
		hand[x] = must
	}
	for x := range hand {
		_, was := r.known[x]
		_, brother := hand[x^1]
		_, parent := hand[x/2]
		if !was && (!brother || !parent) {
			return api.ErrLoose
		}
	}
	r.known = hand
	return api.OK
}

// draw gives a list of nodes of a tree, mostly such as go together: some leaves with what is beside their ways, and some nodes of any number. One in so many of its digests is turned.
func draw(r *rand.Rand, leaves int, nodes map[int]api.Digest, oneIn int) []api.Node {
	w := widthOf(leaves)
	var at []int
	for range r.IntN(3) {
		i := r.IntN(leaves)
		chain, _ := tree.Chain(leaves, i)
		if len(chain) > 0 {
			// A part of the chain is often enough, as the rest is known.
			chain = chain[:1+r.IntN(len(chain))]
		}
		at = append(append(at, chain...), w+i)
	}
	for range r.IntN(4) {
		x := 1 + r.IntN(2*w-1)
		at = append(at, x)
		if r.IntN(3) > 0 && x > 1 {
			at = append(at, x^1)
		}
	}
	r.Shuffle(len(at), func(i, j int) { at[i], at[j] = at[j], at[i] })
	list := pick(nodes, at...)
	for i := range list {
		if oneIn > 0 && r.IntN(oneIn) == 0 {
			list[i].Digest[r.IntN(32)] ^= byte(1 + r.IntN(255))
		}
		if oneIn > 0 && r.IntN(10*oneIn) == 0 {
			list[i].At = []int{0, 2 * w, -1, 2*w + 5}[r.IntN(4)]
		}
	}
	return list
}

func TestP12_3AgainstAReckoning(t *testing.T) {
	r := rand.New(rand.NewPCG(12, 3))
	told := map[api.Errno]int{}
	for round := range 400 {
		n := 1 + round%18
		nodes := treeOf(digests(n, 25))
		want := &reckoning{n, widthOf(n), atFirst(n, nodes)}
		p := begun(t, n, nodes[1])
		for range 25 {
			list := draw(r, n, nodes, []int{0, 4, 20}[round%3])
			e, wanted := p.Put(list), want.put(list)
			told[wanted]++
			if e != wanted {
				t.Fatalf("%d leaves, nodes %v: %d instead of %d", n, list, e, wanted)
			}
			wantKnown(t, "a list", p, n, want.known)
			for i := range n {
				wantNeeds(t, p, i, api.OK, needsOf(p, i)...)
			}
		}
	}
	for _, e := range []api.Errno{api.OK, api.ErrNoNode, api.ErrOther, api.ErrFalse, api.ErrLoose} {
		if told[e] < 50 {
			t.Errorf("the lists are no good: %d was told only %d times", e, told[e])
		}
	}
}

func TestP12_8Sound(t *testing.T) {
	r := rand.New(rand.NewPCG(12, 8))
	for round := range 120 {
		n := []int{2, 3, 4, 5, 6, 7, 8, 9, 11, 13, 16, 33}[round%12]
		leaves := digests(n, 26)
		nodes := treeOf(leaves)
		first := atFirst(n, nodes)
		p := begun(t, n, nodes[1])
		for range 20 {
			p.Put(draw(r, n, nodes, 12))
			known := knownTo(t, p)
			for x, d := range known {
				if _, was := first[x]; was {
					continue
				}
				brother, isBrother := known[x^1]
				parent, isParent := known[x/2]
				if x%2 == 1 {
					d, brother = brother, d
				}
				if !isBrother || !isParent || parent != over(d, brother) {
					t.Fatalf("%d leaves: node %d is held to nothing", n, x)
				}
			}
			climbs(t, p, nodes[1])
		}
	}
}

// climbs holds it against package tree that each known leaf, with its chain, leads to the root.
func climbs(t *testing.T, p *proof.Proof, root api.Digest) {
	t.Helper()
	for i := range p.Leaves() {
		d, is := p.Leaf(i)
		if !is {
			continue
		}
		chain, e := p.Chain(i)
		var beside []api.Digest
		for _, n := range chain {
			beside = append(beside, n.Digest)
		}
		if got, climbed := tree.Climb(p.Leaves(), i, d, beside); e != api.OK || climbed != api.OK || got != root {
			t.Errorf("%d leaves: leaf %d and its chain lead to %x, %d, %d", p.Leaves(), i, got, e, climbed)
		}
	}
}

func TestP12_8Climb(t *testing.T) {
	for _, n := range counts() {
		nodes := treeOf(digests(n, 27))
		p := begun(t, n, nodes[1])
		for i := 0; i < n; i += 1 + n/9 {
			wantPut(t, "a leaf", p, pick(nodes, append(needsOf(p, i), p.Width()+i)...), api.OK)
			climbs(t, p, nodes[1])
		}
	}
}

func TestP12_9OwnNodesAreTaken(t *testing.T) {
	r := rand.New(rand.NewPCG(12, 9))
	for round := range 200 {
		n := 1 + round%17
		nodes := treeOf(digests(n, 28))
		p := begun(t, n, nodes[1])
		was := knownTo(t, p)
		for range 20 {
			if e := p.Put(draw(r, n, nodes, 0)); e != api.OK && e != api.ErrLoose {
				t.Fatalf("%d leaves: the tree's own nodes are refused: %d", n, e)
			}
			now := knownTo(t, p)
			for at, d := range now {
				if d != nodes[at] {
					t.Fatalf("%d leaves: node %d is not the tree's own", n, at)
				}
			}
			stays(t, was, now)
			was = now
		}
	}
}

// stays holds it against a proof that it still knows what it knew.
func stays(t *testing.T, was, now map[int]api.Digest) {
	t.Helper()
	for at, d := range was {
		if got, is := now[at]; !is || got != d {
			t.Errorf("node %d is not what it was, or not known any more", at)
		}
	}
}

func TestP12_9StaysKnown(t *testing.T) {
	r := rand.New(rand.NewPCG(12, 99))
	for round := range 150 {
		n := 2 + round%15
		nodes, others := treeOf(digests(n, 29)), treeOf(digests(n, 30))
		p := begun(t, n, nodes[1])
		was := knownTo(t, p)
		for turn := range 20 {
			from := nodes
			if turn%3 == 2 {
				from = others
			}
			p.Put(draw(r, n, from, 8))
			now := knownTo(t, p)
			stays(t, was, now)
			was = now
		}
	}
}

// clashes tells whether two unlike pairs of digests of one Node stand among what two proofs know.
func clashes(one, two map[int]api.Digest) bool {
	pairs := map[api.Digest][2]api.Digest{}
	for _, known := range []map[int]api.Digest{one, two} {
		for x := range known {
			left, isLeft := known[2*x]
			right, isRight := known[2*x+1]
			if !isLeft || !isRight {
				continue
			}
			d, pair := over(left, right), [2]api.Digest{left, right}
			if was, is := pairs[d]; is && was != pair {
				return true
			}
			pairs[d] = pair
		}
	}
	return false
}

func TestP12_10OneOrAClash(t *testing.T) {
	r := rand.New(rand.NewPCG(12, 10))
	for round := range 150 {
		n := 1 + round%16
		nodes := treeOf(digests(n, 31))
		// Another tree that has the same root, as it says.
		others := treeOf(digests(n, 32))
		others[1] = nodes[1]
		p, q := begun(t, n, nodes[1]), begun(t, n, nodes[1])
		for range 15 {
			p.Put(draw(r, n, nodes, 10))
			q.Put(draw(r, n, others, 10))
			q.Put(draw(r, n, nodes, 10))
			one, two := knownTo(t, p), knownTo(t, q)
			for x, d := range one {
				if other, is := two[x]; is && d != other && !clashes(one, two) {
					t.Fatalf("%d leaves: two digests for node %d, and no clash", n, x)
				}
			}
		}
	}
}

func TestP12_10OneTreeOfTwo(t *testing.T) {
	// Of a tree and one in which a single node is turned, with all above it made right up to the root, a proof takes one.
	for _, n := range []int{2, 3, 4, 5, 8, 13} {
		w := widthOf(n)
		nodes := treeOf(digests(n, 33))
		for i := range n {
			leaves := digests(n, 33)
			leaves[i][i] ^= 2
			others := treeOf(leaves)
			for up := (w + i) / 2; up >= 1; up /= 2 {
				// From this node on up the other one is as the first, as if there were a clash at it.
				forged := maps.Clone(others)
				for x := up; x >= 1; x /= 2 {
					forged[x] = nodes[x]
				}
				p := begun(t, n, nodes[1])
				wantPut(t, "the forged tree", p, pick(forged, span(2, 2*w)...), api.ErrFalse)
				wantPut(t, "the tree", p, pick(nodes, span(2, 2*w)...), api.OK)
				wantPut(t, "the forged tree, behind the tree", p, pick(forged, span(2, 2*w)...), api.ErrOther)
				wantKnown(t, "one of two", p, n, nodes)
			}
		}
	}
}

func TestP12_11OrderCountsForNothing(t *testing.T) {
	r := rand.New(rand.NewPCG(12, 11))
	told := map[api.Errno]int{}
	for round := range 600 {
		n := 2 + round%15
		nodes := treeOf(digests(n, 34))
		p := begun(t, n, nodes[1])
		p.Put(draw(r, n, nodes, 0))
		list := draw(r, n, nodes, []int{0, 6, 3}[round%3])
		first := p.Clone()
		e := first.Put(list)
		told[e]++
		want := knownTo(t, first)
		for range 8 {
			r.Shuffle(len(list), func(i, j int) { list[i], list[j] = list[j], list[i] })
			c := p.Clone()
			got := c.Put(list)
			ofTheList := got == api.ErrNoNode || got == api.ErrOther
			if got != e && !(ofTheList && (e == api.ErrNoNode || e == api.ErrOther)) {
				t.Fatalf("%d leaves, nodes %v: %d, in another order %d", n, list, e, got)
			}
			wantKnown(t, "another order", c, n, want)
		}
	}
	for _, e := range []api.Errno{api.OK, api.ErrOther, api.ErrFalse, api.ErrLoose} {
		if told[e] < 10 {
			t.Errorf("the lists are no good: %d was told only %d times", e, told[e])
		}
	}
}

func TestP12_11AllOrders(t *testing.T) {
	nodes := treeOf(digests(4, 35))
	for _, c := range []struct {
		list []api.Node
		want api.Errno
	}{
		{pick(nodes, 3, 4, 5), api.OK},
		{pick(nodes, 2, 3, 4, 5), api.OK},
		{pick(nodes, 4, 5, 6, 7), api.OK},
		{pick(nodes, 4, 5, 6), api.ErrLoose},
		{append(pick(nodes, 3, 4), api.Node{At: 5}), api.ErrFalse},
		{append(pick(nodes, 3, 4, 5), api.Node{At: 5}), api.ErrOther},
		{append(pick(nodes, 3, 4, 5), api.Node{At: 9}), api.ErrNoNode},
	} {
		orders(c.list, 0, func(list []api.Node) {
			wantPut(t, "in some order", begun(t, 4, nodes[1]), list, c.want)
		})
	}
}

// orders hands on each order of a list's nodes from a place on.
func orders(list []api.Node, from int, use func([]api.Node)) {
	if from == len(list) {
		use(list)
		return
	}
	for i := from; i < len(list); i++ {
		list[from], list[i] = list[i], list[from]
		orders(list, from+1, use)
		list[from], list[i] = list[i], list[from]
	}
}
