package check_test

import (
	"bytes"
	"fmt"
	"slices"
	"testing"

	"strongroom/api"
	"strongroom/check"
	"strongroom/post"
	"strongroom/share"
	"strongroom/ueb"
)

// wantShares holds Shares against what it must come to, and its blocks against those of the truth.
func wantShares(t *testing.T, what string, n *post.Net, w truth, want api.Checked) {
	t.Helper()
	c, blocks, e := check.Shares(n, w.v)
	wantChecked(t, what, c, e, want, api.OK)
	if !sameBlocks(blocks, w.rows(want.Good)) {
		t.Errorf("%s: other blocks, of %d pairs", what, len(blocks))
	}
}

// TestP27_3Shares: the blocks of each good pair, and of no other, in the order of the pairs, by segment.
func TestP27_3Shares(t *testing.T) {
	for i, s := range shapes() {
		for _, w := range []truth{truthOf(t, s, i), noFile(s, i)} {
			n := begun(t, holding(w.v.Index, w.shares, upTo(s[1]), nil, upTo(s[1]/2), upTo(s[1])), nil, []api.Fate{drop()})
			var good []api.Pair
			for number := range s[1] {
				good = append(good, on(0, number), on(3, number))
				if number < s[1]/2 {
					good = append(good, on(2, number))
				}
			}
			wantShares(t, fmt.Sprint(s), n, w, found(w.v, w.in(4, good...), nil, 1))
		}
	}
}

// TestP27_3Bad: a share that falls, early or late, hands out nothing.
func TestP27_3Bad(t *testing.T) {
	w := truthOf(t, four{2, 3, 40, 100}, 12)
	stores := holding(w.v.Index, w.shares, []int{0, 1, 2}, []int{0, 2})
	for _, f := range []api.Fate{drop(), lie(repNone), lie(brought(make([]byte, 20))...), lie(brought(w.front(0))...)} {
		for at := 1; at < 1+3*4; at++ {
			bad := on(0, (at+2)%3)
			good := slices.DeleteFunc(w.in(2, on(0, 0), on(0, 1), on(0, 2), on(1, 0), on(1, 2)), func(p api.Pair) bool { return p == bad })
			if at == 1 && f.Kind == api.FateLie && len(f.Bytes) == 5+w.four.frontLen() {
				continue // number 0's own front
			}
			n := begun(t, stores, behind(at, f))
			wantShares(t, fmt.Sprint("call ", at), n, w, found(w.v, good, []api.Pair{bad}))
		}
	}
	n := begun(t, stores, []api.Fate{drop()}, []api.Fate{drop()})
	wantShares(t, "all are silent", n, w, api.Checked{Silent: []int{0, 1}})
	wantShares(t, "no servers", begun(t, nil), w, api.Checked{})
}

// TestP27_3Requests: it makes the requests that Check makes.
func TestP27_3Requests(t *testing.T) {
	examples(t, func(w truth) {
		a, b := exampleNet(t, w), exampleNet(t, w)
		c, _ := check.Check(a, w.v)
		d, _, _ := check.Shares(b, w.v)
		if b.Made() != 11 || !sameTrace(a.Transcript(), b.Transcript()) || !sameChecked(c, d) {
			t.Errorf("%d calls, %+v, want %d, %+v", b.Made(), d, a.Made(), c)
		}
	})
}

// frontsOf gives the fronts that a transcript brought, by pair.
func frontsOf(w truth, trace []api.Exchange) map[api.Pair][]byte {
	l := map[api.Pair][]byte{}
	for _, x := range trace {
		for number := range w.four[1] {
			if bytes.Equal(x.Request, w.frontFetch(number)) && len(x.Reply) > 5 {
				l[on(x.Server, number)] = x.Reply[5:]
			}
		}
	}
	return l
}

// TestP27_4Sound: the blocks of a good pair and its front are a share that is sound, under the Ueb of the capability, also where that is no file's; of those that are bad none is, that could be fetched.
func TestP27_4Sound(t *testing.T) {
	for seed := range uint64(150) {
		d := drawn(3000 + seed)
		w := d.truth(t)
		stores := d.stores(w)
		n := begun(t, stores)
		c, blocks, e := check.Shares(n, w.v)
		if e != api.OK || len(blocks) != len(c.Good) {
			t.Fatalf("seed %d: %d, blocks of %d, %d good", seed, e, len(blocks), len(c.Good))
		}
		fronts := frontsOf(w, n.Transcript())
		for i, p := range c.Good {
			front, _, e := share.OpenFront(fronts[p])
			digest, _ := ueb.Digest(front.Ueb)
			if e != api.OK || front.Number != p.Number || digest != w.v.Ueb || !share.Sound(api.Share{Front: front, Data: blocks[i]}) {
				t.Errorf("seed %d, %v: not sound, %d", seed, p, e)
			}
		}
		for _, p := range c.Bad {
			for _, k := range stores[p.Server].Kept {
				if s, _, e := share.Open(k.Bytes); k.Number == p.Number && e == api.OK && k.Leases[0].Until == api.MaxTick && s.Front.Number == p.Number && share.Sound(s) {
					t.Errorf("seed %d, %v: sound", seed, p)
				}
			}
		}
	}
}
