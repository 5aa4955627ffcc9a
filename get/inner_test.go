package get

import (
	"testing"

	"strongroom/api"
	"strongroom/post"
	"strongroom/recipe"
	"strongroom/tag"
)

// TestP26_1Rooted: no piece tells digests that do not lead to its Ueb's root, so that nobody can be asked for such segments; the question itself is put here.
func TestP26_1Rooted(t *testing.T) {
	a, b, c := api.Digest{1}, api.Digest{2}, api.Digest{3}
	r := &reading{digests: []api.Digest{a, b, c}}
	root := tag.Node(tag.Node(a, b), tag.Node(c, tag.Pad(3)))
	for _, other := range []api.Digest{{}, a, tag.Node(a, b), tag.Node(c, tag.Pad(3)), tag.Node(tag.Node(a, b), c)} {
		if r.rooted(other) {
			t.Errorf("%x is their root", other)
		}
	}
	if !r.rooted(root) || (&reading{digests: []api.Digest{b, a, c}}).rooted(root) || (&reading{digests: []api.Digest{a, b}}).rooted(root) || (&reading{}).rooted(api.Digest{}) {
		t.Error("the root is not that of these and of no others")
	}
}

// watched is a net of which is seen how many calls each batch has.
type watched struct {
	*post.Net
	batches []int
}

func (w *watched) Ask(batch []api.Call) ([]api.Answer, api.Errno) {
	w.batches = append(w.batches, len(batch))
	return w.Net.Ask(batch)
}

// TestP26_1Batches: a net cannot tell that it was asked nothing; so it is seen here that no batch is without calls.
func TestP26_1Batches(t *testing.T) {
	m, e := recipe.Make(make([]byte, 100), api.Params{K: 2, N: 3, Seg: 40})
	if e != api.OK {
		t.Fatal(e)
	}
	for servers, want := range [][]int{nil, {1, 1}, {2, 2, 2, 2, 2}, {3, 2, 2, 2, 2}} {
		var stores []api.Store
		for i, share := range m.Shares[:servers] {
			k := api.Kept{Index: m.Verify.Index, Number: i, Bytes: share, Leases: []api.Lease{{Who: 1, Until: 99}}}
			stores = append(stores, api.Store{Room: 1 << 20, Kept: []api.Kept{k}})
		}
		n, e := post.New(stores, nil)
		if e != api.OK {
			t.Fatal(e)
		}
		w := &watched{Net: n}
		s, _ := sourceOf(m.Read)
		s.read(w, 0, s.shape.Segs-1)
		if len(w.batches) != len(want) {
			t.Fatalf("%d servers: %v, want %v", servers, w.batches, want)
		}
		for i, calls := range w.batches {
			if calls != want[i] {
				t.Errorf("%d servers: %v, want %v", servers, w.batches, want)
			}
		}
	}
}
