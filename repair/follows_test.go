package repair_test

import (
	"bytes"
	"fmt"
	"slices"
	"testing"

	"strongroom/api"
	"strongroom/check"
	"strongroom/get"
	"strongroom/post"
	"strongroom/put"
	"strongroom/recipe"
	"strongroom/repair"
)

// stores gives the calls of a transcript that ask to keep a share.
func storesOf(trace []api.Exchange) []api.Exchange {
	return slices.DeleteFunc(slices.Clone(trace), func(x api.Exchange) bool { return x.Request[0] != 2 })
}

// wantRecipes: what was handed out are the shares of a truth, each under its number and the lease; of what is no file nothing.
func wantRecipes(t *testing.T, what string, w truth, l api.Lease, trace []api.Exchange) int {
	t.Helper()
	stores := storesOf(trace)
	if !w.file && len(stores) > 0 {
		t.Errorf("%s: %d shares of no file were handed out", what, len(stores))
		return 0
	}
	for _, x := range stores {
		number := int(x.Request[17])
		if number >= w.four[1] || !bytes.Equal(x.Request, w.storing(number, l)) {
			t.Errorf("%s: number %d to server %d: %.60x", what, number, x.Server, x.Request)
		}
	}
	return len(stores)
}

// TestP28_3Recipe: whatever servers reply, what a repair hands out is the recipe's.
func TestP28_3Recipe(t *testing.T) {
	count := 0
	repairs(t, 400, 1, func(d draw, w truth, l api.Lease, nets []*post.Net) {
		repair.Repair(nets[0], w.v, l)
		count += wantRecipes(t, "Repair", w, l, nets[0].Transcript())
	})
	if count < 1000 {
		t.Errorf("%d shares alone", count)
	}
}

// TestP28_3Spoilt: the same, where a byte of the only other share is another one, wherever it stands.
func TestP28_3Spoilt(t *testing.T) {
	w := truthOf(t, four{1, 3, 40, 90}, 20)
	l := lease(5, 900)
	for at := range w.shares[1] {
		n := begun(t, holding(w.v.Index, w.shares, []int{1}, []int{0}))
		b := bytes.Clone(w.shares[1])
		b[at] ^= 1 << (at % 8)
		n.Spoil(0, w.v.Index, 1, b)
		r, e := repair.Repair(n, w.v, l)
		if e != api.OK || len(r.Good) != 1 || !slices.Contains(r.Stored, on(1, 1)) || wantRecipes(t, fmt.Sprint("byte ", at), w, l, n.Transcript()) != 2 {
			t.Errorf("byte %d: %+v, %d", at, r, e)
		}
	}
}

// TestP2Repair: the shares that a repair hands out are those that the put of the file did, also of a file with a secret.
func TestP2Repair(t *testing.T) {
	for seed := range 12 {
		p := api.Params{K: 1 + seed%3, N: 4 + seed%3, Seg: 30 + seed, Happy: 1, Secret: filled(seed, seed)}
		file := filled(100+seed, seed)
		n := begun(t, []api.Store{{Room: 1 << 20}, {Room: 1 << 20}, {Room: 1 << 20}})
		s, e := put.Put(n, file, p, lease(1, 900))
		if e != api.OK {
			t.Fatal(e)
		}
		v, _ := recipe.Weaken(s.Cap.Read)
		var kept []api.Store
		for i := range 3 {
			store, _ := n.Store(i)
			store.Tick = 0
			store.Kept = slices.DeleteFunc(store.Kept, func(k api.Kept) bool { return k.Number < p.N-p.K })
			kept = append(kept, store)
		}
		n = begun(t, kept)
		l := lease(2, 700)
		r, e := repair.Repair(n, v, l)
		if e != api.OK || len(r.Stored) != p.N-p.K {
			t.Fatalf("%d: %+v, %d", seed, r, e)
		}
		for i, x := range storesOf(n.Transcript()) {
			want, e := recipe.Share(file, p, i)
			if e != api.OK || !bytes.Equal(x.Request, storing(v.Index, i, l, want)) {
				t.Errorf("%d: number %d is another share", seed, i)
			}
		}
	}
}

// healthy draws servers that have at least K numbers, none of them bad, and room for the shares that lack and for some bytes more.
func (d draw) healthy(w truth, more int) []api.Store {
	lists := make([][]int, 1+d.IntN(6))
	has := d.Perm(w.four[1])[:w.four[0]+d.IntN(w.four[1]-w.four[0]+1)]
	slices.Sort(has)
	for _, number := range has {
		first := d.IntN(len(lists))
		for s := range lists {
			if s == first || d.IntN(4) == 0 {
				lists[s] = append(lists[s], number)
			}
		}
	}
	stores := holding(w.v.Index, w.shares, lists...)
	for i := range stores {
		stores[i].Room = more + (w.four[1]-len(has)+len(stores[i].Kept))*len(w.shares[0])
	}
	return stores
}

// TestP7Whole: where all reply honestly and in time, K numbers are good, none is bad and there is room, a check behind the repair finds all; with just as much room as it takes, and with leases that run just as long.
func TestP7Whole(t *testing.T) {
	stored := 0
	for seed := range uint64(500) {
		d := drawn(70000 + seed)
		w := truthOf(t, d.shape(), int(seed))
		stores := d.healthy(w, d.IntN(2)*d.IntN(1000))
		fates := d.inTime(len(stores))
		rehearsed := begun(t, stores, fates...)
		repair.Repair(rehearsed, w.v, lease(3, api.MaxTick))
		check.Check(rehearsed, w.v)
		trace := rehearsed.Transcript()
		last := trace[len(trace)-1].Sent // when the check sends its last call
		for i := range stores {
			for j := range stores[i].Kept {
				stores[i].Kept[j].Leases[0].Until = last
			}
		}
		n := begun(t, stores, fates...)
		r, e := repair.Repair(n, w.v, lease(3, last))
		if e != api.OK || len(r.Lacks) != 0 || numbersOf(r.Good)+len(r.Stored) != w.four[1] {
			t.Fatalf("seed %d: %+v, %d", seed, r, e)
		}
		if found := wantAll(t, fmt.Sprint("seed ", seed), n, w.v); found != len(r.Good)+len(r.Stored) {
			t.Fatalf("seed %d: %d pairs behind it, %+v", seed, found, r)
		}
		stored += len(r.Stored)
	}
	if stored < 400 {
		t.Errorf("%d stored alone", stored)
	}
}

// TestP28_4Read: of what a repair has stored alone the file is read, when all else is gone.
func TestP28_4Read(t *testing.T) {
	for i, s := range []four{{1, 2, 40, 100}, {2, 5, 40, 333}, {3, 7, 66, 1000}, {5, 12, 50, 400}} {
		m := madeOf(t, filled(s[3], i), params(s[0], s[1], s[2]))
		stores := holding(m.Verify.Index, m.Shares, upTo(s[0]), nil, nil)
		for j := range stores[0].Kept {
			stores[0].Kept[j].Leases[0].Until = 100
		}
		n := begun(t, stores)
		r, e := repair.Repair(n, m.Verify, lease(1, 10000))
		if e != api.OK || len(r.Stored) != s[1]-s[0] {
			t.Fatalf("%v: %+v, %d", s, r, e)
		}
		n.Wait(200)
		if got, e := get.Get(n, m.Read); e != api.OK || !bytes.Equal(got.File, filled(s[3], i)) {
			t.Errorf("%v: %d bytes, %d", s, len(got.File), e)
		}
	}
}

// TestP28_2Behind: Lacks are the numbers of which nothing good is there behind the repair, whatever was there ahead of it.
func TestP28_2Behind(t *testing.T) {
	lacks := 0
	for seed := range uint64(500) {
		d := drawn(80000 + seed)
		w := truthOf(t, d.shape(), int(seed))
		stores := d.stores(w)
		for i := range stores {
			stores[i].Room = d.IntN(2) * len(w.shares[0])
			for j, k := range stores[i].Kept {
				stores[i].Room += len(k.Bytes)
				stores[i].Kept[j].Leases[0].Until = api.MaxTick
			}
		}
		n := begun(t, stores, d.inTime(len(stores))...)
		r, e := repair.Repair(n, w.v, lease(3, api.MaxTick))
		if e == api.ErrFew {
			continue
		}
		c, _ := check.Check(n, w.v)
		for number := range w.four[1] {
			good := slices.ContainsFunc(c.Good, func(p api.Pair) bool { return p.Number == number })
			if good == slices.Contains(r.Lacks, number) {
				t.Fatalf("seed %d: %+v, %d, but behind it %v", seed, r, e, c.Good)
			}
		}
		for _, p := range slices.Concat(r.Good, r.Stored) {
			if !slices.Contains(c.Good, p) {
				t.Fatalf("seed %d: %v is not there: %v", seed, p, c.Good)
			}
		}
		lacks += len(r.Lacks)
	}
	if lacks < 100 {
		t.Errorf("%d lack alone", lacks)
	}
}

// toldAgain gives a net without any shares or room whose servers are made to reply what a transcript says.
func toldAgain(t *testing.T, servers int, trace []api.Exchange) *post.Net {
	t.Helper()
	rows := make([][]api.Fate, servers)
	for _, x := range trace {
		f := drop()
		if x.Came {
			f = lie(x.Reply...)
		}
		rows[x.Server] = append(rows[x.Server], f)
	}
	return begun(t, make([]api.Store, servers), rows...)
}

// TestP28_5Blind: what is asked and answered hangs on the replies alone: not on what servers hold, not on ticks, not on what was asked ahead.
func TestP28_5Blind(t *testing.T) {
	repairs(t, 300, 1, func(d draw, w truth, l api.Lease, nets []*post.Net) {
		servers := nets[0].Servers()
		want, wanted := repair.Repair(nets[0], w.v, l)
		trace := nets[0].Transcript()
		n := toldAgain(t, servers, trace)
		n.Wait(d.IntN(1000))
		r, e := repair.Repair(n, w.v, l)
		wantRepaired(t, "told again", r, e, want, wanted)
		if !slices.EqualFunc(n.Transcript(), trace, func(a, b api.Exchange) bool {
			return a.Server == b.Server && bytes.Equal(a.Request, b.Request)
		}) {
			t.Error("other requests")
		}
	})
}

// TestP7Blind: two nets that reply the same have the same transcripts, of which the first part is a check's.
func TestP7Blind(t *testing.T) {
	repairs(t, 200, 3, func(d draw, w truth, l api.Lease, nets []*post.Net) {
		a, e := repair.Repair(nets[0], w.v, l)
		b, again := repair.Repair(nets[1], w.v, l)
		wantRepaired(t, "a second net", b, again, a, e)
		trace := nets[0].Transcript()
		if !sameTrace(trace, nets[1].Transcript()) {
			t.Error("other transcripts")
		}
		c, _ := check.Check(nets[2], w.v)
		if !slices.Equal(c.Good, a.Good) || !sameTrace(trace[:nets[2].Made()], nets[2].Transcript()) {
			t.Errorf("a check asks or tells something else: %v, want %v", c.Good, a.Good)
		}
		if len(storesOf(trace)) != len(trace)-nets[2].Made() {
			t.Error("a store ahead of the check's end, or something else behind it")
		}
	})
}

// TestP28_5Requests: no repair asks for more than it may.
func TestP28_5Requests(t *testing.T) {
	for i, s := range []four{{1, 1, 33, 33}, {1, 4, 40, 130}, {2, 3, 40, 130}, {3, 9, 12, 60}, {1, 2, 1, 512}} {
		w := truthOf(t, s, i)
		for _, servers := range []int{1, 3, 32} {
			lists := slices.Repeat([][]int{upTo(s[0])}, servers)
			stores := holding(w.v.Index, w.shares, lists...)
			for i := range stores {
				stores[i].Room = s[0] * len(w.shares[0])
			}
			n := begun(t, stores)
			r, e := repair.Repair(n, w.v, lease(1, 9000))
			want := servers + servers*s[0]*(1+s.segs()) + servers*(s[1]-s[0])
			if len(r.Good) != servers*s[0] || len(r.Lacks) != s[1]-s[0] || n.Made() != want || want > w.most(servers) {
				t.Errorf("%v, %d servers: %d good, %d lack, %d, %d calls, want %d", s, servers, len(r.Good), len(r.Lacks), e, n.Made(), want)
			}
		}
	}
}

// TestP28_6Again: where all reply honestly and in time, a repair behind one that answered OK stores nothing.
func TestP28_6Again(t *testing.T) {
	oks := 0
	for seed := range uint64(400) {
		d := drawn(90000 + seed)
		w := truthOf(t, d.shape(), int(seed))
		stores := d.stores(w)
		for i := range stores {
			for j := range stores[i].Kept {
				stores[i].Kept[j].Leases[0].Until = api.MaxTick
			}
		}
		n := begun(t, stores, d.inTime(len(stores))...)
		r, e := repair.Repair(n, w.v, lease(3, api.MaxTick))
		if e != api.OK {
			continue
		}
		if len(r.Stored) > 0 {
			oks++
		}
		both := w.in(len(stores), slices.Concat(r.Good, r.Stored)...)
		for range 2 {
			from := n.Made()
			wantRepair(t, fmt.Sprint("seed ", seed), n, w.v, lease(4, api.MaxTick), api.Repaired{Good: both}, api.OK)
			if len(storesOf(n.Transcript()[from:])) != 0 {
				t.Errorf("seed %d: shares were handed out again", seed)
			}
		}
	}
	if oks < 80 {
		t.Errorf("%d with something stored alone", oks)
	}
}
