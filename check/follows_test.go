package check_test

import (
	"bytes"
	"fmt"
	"slices"
	"testing"

	"strongroom/api"
	"strongroom/check"
	"strongroom/post"
	"strongroom/put"
)

// lying gives what lies on a net's servers under an index, in the order of the candidates.
func lying(t *testing.T, n *post.Net, w truth) []api.Pair {
	t.Helper()
	var l []api.Pair
	for s := range n.Servers() {
		store, e := n.Store(s)
		if e != api.OK {
			t.Fatal(e)
		}
		for _, k := range store.Kept {
			if k.Index == w.v.Index {
				l = append(l, on(s, k.Number))
			}
		}
	}
	return w.in(n.Servers(), l...)
}

// TestP27_5Put: of what was put all is good that lies there, however it came to lie where it does.
func TestP27_5Put(t *testing.T) {
	placed := 0
	for seed := range uint64(300) {
		d := drawn(40000 + seed)
		s := d.shape()
		file := filled(s[3], int(seed))
		m := madeOf(t, file, params(s[0], s[1], s[2]))
		w := truth{v: m.Verify, four: s, ueb: m.Ueb, shares: m.Shares}
		stores := make([]api.Store, 1+d.IntN(8))
		for i := range stores {
			stores[i].Room = d.IntN(s[1] * len(m.Shares[0]))
		}
		fates := d.inTime(len(stores))
		n := begun(t, stores, fates...)
		for who := range uint32(1 + d.IntN(3)) {
			put.Put(n, file, params(s[0], s[1], s[2]), api.Lease{Who: who, Until: api.MaxTick}) // where there was no room it may be refused
		}
		put.Put(n, filled(200, 1000+int(seed)), params(1, 2, 50), api.Lease{Until: api.MaxTick})
		want := lying(t, n, w)
		wantCheck(t, fmt.Sprint("seed ", seed), n, w.v, found(w.v, want, nil))
		wantShares(t, fmt.Sprint("seed ", seed), n, w, found(w.v, want, nil))
		placed += len(want)
	}
	if placed < 500 {
		t.Errorf("%d shares alone", placed)
	}
}

// TestP27_5Leases: a lease that runs up to the tick of the last fetch keeps its share good; one that runs a tick less does not.
func TestP27_5Leases(t *testing.T) {
	w := truthOf(t, four{1, 2, 40, 100}, 13) // three segments: the batches are sent at the ticks 0, 3, .., 12
	for until := range 15 {
		stores := holding(w.v.Index, w.shares, []int{0, 1})
		stores[0].Kept[1].Leases[0].Until = until
		n := begun(t, stores, slices.Repeat([]api.Fate{honest(3)}, 30))
		want := found(w.v, []api.Pair{on(0, 0), on(0, 1)}, nil)
		calls := 1 + 2 + 6
		if until < 12 {
			want = found(w.v, []api.Pair{on(0, 0)}, []api.Pair{on(0, 1)})
			calls -= max(0, 3-until/3)
		}
		wantCheck(t, fmt.Sprint("up to ", until), n, w.v, want)
		wantUntouched(t, n, 15, calls)
	}
}

// TestP27_6Requests: no check asks for more than it may, and some ask for that; nothing is asked but ReqHave and ReqFetch, and nothing twice; servers stay as they are.
func TestP27_6Requests(t *testing.T) {
	for i, s := range []four{{1, 1, 33, 33}, {1, 4, 40, 130}, {2, 3, 40, 130}, {3, 9, 12, 60}, {1, 1, 1, 512}} {
		w := truthOf(t, s, i)
		for _, servers := range []int{1, 3, 32} {
			stores := holding(w.v.Index, w.shares, slices.Repeat([][]int{upTo(s[1])}, servers)...)
			n := begun(t, stores)
			wantCheck(t, fmt.Sprint(s), n, w.v, found(w.v, lying(t, n, w), nil))
			if n.Made() != w.most(servers) {
				t.Errorf("%v, %d servers: %d calls, want %d", s, servers, n.Made(), w.most(servers))
			}
			for server, store := range stores {
				wantStays(t, n, server, store)
			}
			wantLooks(t, n.Transcript())
		}
	}
}

// wantStays: a server has the shares that it had.
func wantStays(t *testing.T, n *post.Net, server int, store api.Store) {
	t.Helper()
	now, e := n.Store(server)
	if e != api.OK || now.Room != store.Room || !slices.EqualFunc(now.Kept, store.Kept, func(a, b api.Kept) bool {
		return a.Index == b.Index && a.Number == b.Number && bytes.Equal(a.Bytes, b.Bytes) && slices.Equal(a.Leases, b.Leases)
	}) {
		t.Errorf("server %d has other shares", server)
	}
}

// wantLooks: each server is asked ReqHave once, and else fetches alone, none of them twice.
func wantLooks(t *testing.T, trace []api.Exchange) {
	t.Helper()
	type made struct {
		server  int
		request string
	}
	seen := map[made]int{}
	haves := map[int]int{}
	for _, x := range trace {
		m := made{x.Server, string(x.Request)}
		if seen[m]++; seen[m] > 1 || x.Request[0] != 1 && x.Request[0] != 3 {
			t.Errorf("%x was asked of %d", x.Request, x.Server)
		}
		if x.Request[0] == 1 {
			haves[x.Server]++
		}
	}
	for server, count := range haves {
		if count != 1 {
			t.Errorf("%d was asked %d times what it has", server, count)
		}
	}
}

// TestP27_6Stays: whatever becomes of its requests, a check changes nothing on any server.
func TestP27_6Stays(t *testing.T) {
	checks(t, 150, 2, func(d draw, w truth, nets []*post.Net) {
		for i, n := range nets {
			var before []api.Store
			for s := range n.Servers() {
				store, _ := n.Store(s)
				store.Kept = slices.DeleteFunc(store.Kept, func(k api.Kept) bool { return k.Leases[0].Until < api.MaxTick }) // these go by ticks
				before = append(before, store)
			}
			if i == 0 {
				check.Check(n, w.v)
			} else {
				check.Shares(n, w.v)
			}
			n.Wait(100)
			for s, store := range before {
				wantStays(t, n, s, store)
			}
			wantLooks(t, n.Transcript())
		}
	})
}

// toldAgain gives a net without any shares whose servers are made to reply what a transcript says, a tick later each.
func toldAgain(t *testing.T, servers int, trace []api.Exchange) *post.Net {
	t.Helper()
	rows := make([][]api.Fate, servers)
	for _, x := range trace {
		f := drop()
		if x.Came {
			f = lie(x.Reply...)
		}
		rows[x.Server] = append(rows[x.Server], f)
	}
	return begun(t, make([]api.Store, servers), rows...)
}

// TestP27_6Replies: what is asked and answered hangs on the replies alone: not on what servers hold, not on ticks, not on what was asked ahead.
func TestP27_6Replies(t *testing.T) {
	checks(t, 200, 1, func(d draw, w truth, nets []*post.Net) {
		servers := nets[0].Servers()
		want, blocks, e := check.Shares(nets[0], w.v)
		trace := nets[0].Transcript()
		n := toldAgain(t, servers, trace)
		n.Wait(d.IntN(1000))
		c, again, g := check.Shares(n, w.v)
		wantChecked(t, "told again", c, g, want, e)
		if !sameBlocks(again, blocks) {
			t.Error("other blocks")
		}
		if !slices.EqualFunc(n.Transcript(), trace, func(a, b api.Exchange) bool {
			return a.Server == b.Server && bytes.Equal(a.Request, b.Request)
		}) {
			t.Error("other requests")
		}
	})
}

// wantSplit: each candidate stands in Good or in Bad, once and not in both; Spread's Numbers are at most N, and All says Enough.
func wantSplit(t *testing.T, w truth, servers int, trace []api.Exchange, c api.Checked) {
	t.Helper()
	var candidates []api.Pair
	for _, x := range trace[:servers] {
		if l, is := said(x.Reply); is && x.Came {
			for _, number := range l {
				if int(number) < w.four[1] {
					candidates = append(candidates, on(x.Server, int(number)))
				}
			}
		}
	}
	byBoth := func(a, b api.Pair) int { return (a.Server-b.Server)*1000 + a.Number - b.Number }
	all := slices.Concat(c.Good, c.Bad)
	slices.SortFunc(all, byBoth)
	slices.SortFunc(candidates, byBoth)
	if !slices.Equal(all, candidates) {
		t.Errorf("good and bad are %v, candidates %v", all, candidates)
	}
	if c.Spread.Numbers > w.four[1] || c.All && !c.Enough {
		t.Errorf("%v, %v, %v", c.Spread, c.Enough, c.All)
	}
}

// TestP27_7Candidates: all numbers below N that are told of are told good or bad, also by servers that lie.
func TestP27_7Candidates(t *testing.T) {
	for _, s := range []four{{1, 1, 33, 33}, {2, 5, 40, 100}, {1, 255, 20, 40}} {
		w := truthOf(t, s, 14)
		var every []byte
		for i := range byte(255) {
			every = append(every, i)
		}
		stores := holding(w.v.Index, w.shares, upTo(s[1]), nil, []int{0})
		n := begun(t, stores, []api.Fate{lie(numbers(every...)...)}, []api.Fate{lie(numbers(every...)...)}, []api.Fate{lie(numbers(every[s[1]-1:]...)...)})
		c, e := check.Check(n, w.v)
		wantSplit(t, w, 3, n.Transcript(), c)
		good := w.in(3, lying(t, n, w)...)
		if s[1] > 1 {
			good = slices.DeleteFunc(good, func(p api.Pair) bool { return p.Server == 2 }) // it does not tell of what it has
		}
		if e != api.OK || !slices.Equal(c.Good, good) || len(c.Good)+len(c.Bad) != 2*s[1]+1 || !c.All || c.Spread.Numbers != s[1] {
			t.Errorf("%v: %d good, %d bad, %v, %d", s, len(c.Good), len(c.Bad), c.Spread, e)
		}
	}
}

// TestP6Spoilt: with honest replies just those shares are good that are unaltered: a turned byte is found, wherever in a share it stands.
func TestP6Spoilt(t *testing.T) {
	for i, s := range []four{{1, 1, 50, 60}, {2, 3, 40, 100}, {3, 5, 12, 34}} {
		w := truthOf(t, s, 15+i)
		number := s[1] - 1
		for at := range w.shares[number] {
			n := begun(t, holding(w.v.Index, w.shares, upTo(s[1]), []int{number}))
			b := bytes.Clone(w.shares[number])
			b[at] ^= 1 << (at % 8)
			if e := n.Spoil(0, w.v.Index, number, b); e != api.OK {
				t.Fatal(e)
			}
			good := []api.Pair{on(1, number)}
			for i := range number {
				good = append(good, on(0, i))
			}
			wantCheck(t, fmt.Sprintf("%v, byte %d", s, at), n, w.v, found(w.v, w.in(2, good...), []api.Pair{on(0, number)}))
		}
	}
}

// TestP6Others: a share of another number, of another file, of the same file under other parameters or another secret, or one cut short, is bad, though it be sound.
func TestP6Others(t *testing.T) {
	s := four{2, 3, 40, 100}
	w, other := truthOf(t, s, 20), truthOf(t, s, 21)
	wide, fine := truthOf(t, four{2, 4, 40, 100}, 20), truthOf(t, four{2, 3, 20, 100}, 20)
	secret := madeOf(t, filled(100, 20), api.Params{K: 2, N: 3, Seg: 40, Secret: []byte{1}})
	forgery := noFile(s, 20)
	spoilt := [][]byte{w.shares[0], w.shares[2], other.shares[1], wide.shares[1], fine.shares[1], secret.Shares[1], forgery.shares[1], nil}
	for n := range w.shares[1] {
		spoilt = append(spoilt, w.shares[1][:n])
	}
	for i, b := range spoilt {
		stores := holding(w.v.Index, w.shares, []int{0, 1, 2}, []int{1})
		stores[0].Kept[1].Bytes = b
		n := begun(t, stores)
		wantCheck(t, fmt.Sprint("other bytes ", i), n, w.v, found(w.v, w.in(2, on(0, 0), on(0, 2), on(1, 1)), []api.Pair{on(0, 1)}))
	}
}

// TestP6Recipe: whatever servers reply, what is told as good came with the recipe's own front and blocks.
func TestP6Recipe(t *testing.T) {
	checks(t, 200, 1, func(d draw, w truth, nets []*post.Net) {
		c, blocks, _ := check.Shares(nets[0], w.v)
		brought := map[string]int{}
		for _, x := range nets[0].Transcript() {
			if x.Came && len(x.Reply) > 5 {
				brought[fmt.Sprint(x.Server)+string(x.Request)+string(x.Reply[5:])]++
			}
		}
		for i, p := range c.Good {
			if brought[fmt.Sprint(p.Server)+string(w.frontFetch(p.Number))+string(w.front(p.Number))] != 1 {
				t.Errorf("%v: another front", p)
			}
			for j, b := range blocks[i] {
				if !bytes.Equal(b, w.block(p.Number, j)) || brought[fmt.Sprint(p.Server)+string(w.blockFetch(p.Number, j))+string(b)] != 1 {
					t.Errorf("%v: another block of segment %d", p, j)
				}
			}
		}
	})
}
