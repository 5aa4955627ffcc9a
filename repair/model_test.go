package repair_test

import (
	"bytes"
	"math/rand/v2"
	"runtime"
	"slices"
	"testing"
	"time"

	"strongroom/api"
	"strongroom/post"
	"strongroom/repair"
)

// draw draws things by a fixed seed; one fate of so many is none that is honest and in time.
type draw struct {
	*rand.Rand
	odd int
}

func drawn(seed uint64) draw {
	d := draw{Rand: rand.New(rand.NewPCG(seed, 28))}
	d.odd = []int{3, 10, 40}[d.IntN(3)]
	return d
}

// shape draws parameters and a size.
func (d draw) shape() four {
	n := 1 + d.IntN(7)
	k := 1 + d.IntN(min(n, 3))
	return four{k, n, k * (20/k + 1 + d.IntN(20)), 33 + d.IntN(150)}
}

// truth draws a file, or now and then what is none.
func (d draw) truth(t *testing.T) truth {
	s, seed := d.shape(), d.IntN(1000)
	switch d.IntN(6) {
	case 0:
		return noFile(s, seed)
	case 1:
		l := crooked(t, s, seed)
		return l[d.IntN(len(l))]
	}
	return truthOf(t, s, seed)
}

// lease draws a lease, often a long one.
func (d draw) lease() api.Lease {
	return lease(uint32(d.IntN(4)), []int{0, api.MaxTick, api.MaxTick, 10000, 10000, d.IntN(60)}[d.IntN(6)])
}

// bent turns a bit of bytes, which are not empty.
func (d draw) bent(b []byte) []byte {
	b = bytes.Clone(b)
	b[d.IntN(len(b))] ^= 1 << d.IntN(8)
	return b
}

// stores draws servers that have some of the shares, some of these not as they must be, some not for long, and room for some more.
func (d draw) stores(w truth) []api.Store {
	stores := make([]api.Store, d.IntN(7))
	rare := 1 + d.IntN(4)
	for s := range stores {
		for number, share := range w.shares {
			if d.IntN(rare) > 0 {
				continue
			}
			k := kept(w.v.Index, number, share)
			switch d.IntN(20) {
			case 0:
				k.Bytes = d.bent(share)
			case 1:
				k.Bytes = share[:d.IntN(len(share))]
			case 2:
				k.Bytes = w.shares[d.IntN(len(w.shares))]
			case 3:
				k.Leases[0].Until = d.IntN(60)
			}
			stores[s].Kept = append(stores[s].Kept, k)
		}
		for number := w.four[1]; number < w.four[1]+d.IntN(3); number++ {
			stores[s].Kept = append(stores[s].Kept, kept(w.v.Index, number, w.shares[0]))
		}
		for _, k := range stores[s].Kept {
			stores[s].Room += len(k.Bytes)
		}
		stores[s].Room += d.IntN(w.four[1]+2) * len(w.shares[0])
	}
	return stores
}

// reply draws the bytes of a lie.
func (d draw) reply(w truth) []byte {
	number, j := d.IntN(w.four[1]), d.IntN(w.four.segs())
	var l []byte
	for i := range byte(w.four[1] + 2) {
		if d.IntN(2) == 0 {
			l = append(l, i)
		}
	}
	replies := [][]byte{
		nil, {repNone}, {repRefused}, {repStored}, {repStored}, {repStored}, {repStored, 0}, {repFull}, {repOther}, {5}, numbers(l...), numbers(l...), append(numbers(l...), 0), numbers(2, 1), numbers(255),
		brought(w.front(number)), brought(d.bent(w.front(number))), w.front(number),
		brought(w.block(number, j)), brought(d.bent(w.block(number, j))), w.block(number, j),
	}
	return replies[d.IntN(len(replies))]
}

// fate draws a fate: often an honest one.
func (d draw) fate(w truth) api.Fate {
	switch d.IntN(3 * d.odd) {
	case 0:
		return []api.Fate{drop(), lose(), late(), {}}[d.IntN(4)]
	case 1, 2:
		f := lie(d.reply(w)...)
		f.Delay = d.IntN(13)
		return f
	}
	return honest(d.IntN(11))
}

func (d draw) fates(servers int, w truth) [][]api.Fate {
	rows := make([][]api.Fate, d.IntN(servers+1))
	for i := range rows {
		for range d.IntN(40) {
			rows[i] = append(rows[i], d.fate(w))
		}
	}
	return rows
}

// inTime draws rows of fates that are all honest and in time.
func (d draw) inTime(servers int) [][]api.Fate {
	rows := make([][]api.Fate, servers)
	for i := range rows {
		for range d.IntN(60) {
			rows[i] = append(rows[i], honest(d.IntN(api.Patience+2)-1))
		}
	}
	return rows
}

// turn has one of the calls of a repair come to something else than it did: the rows of fates are such as would come to just the same up to there.
func (d draw) turn(w truth, rows [][]api.Fate, servers int, trace []api.Exchange) [][]api.Fate {
	out := make([][]api.Fate, servers)
	for i, row := range rows {
		out[i] = slices.Clone(row)
	}
	at := d.IntN(len(trace))
	if d.IntN(2) == 0 { // the last calls are stores, often
		at = len(trace) - 1 - d.IntN(min(len(trace), 6))
	}
	x, m := trace[at], 0
	for _, ahead := range trace[:at] {
		if ahead.Server == x.Server {
			m++
		}
	}
	for len(out[x.Server]) <= m {
		out[x.Server] = append(out[x.Server], honest(1))
	}
	f := []api.Fate{drop(), lose(), late(), lie(d.reply(w)...), lie(d.reply(w)...), lie(repStored), honest(10)}[d.IntN(7)]
	if x.Came && len(x.Reply) > 0 && d.IntN(4) == 0 {
		f = lie(d.bent(x.Reply)...)
	}
	out[x.Server][m] = f
	return out
}

// repairs does something with many nets, each net being another one than the last by one fate on the way; of each as many are handed out as are asked for.
func repairs(t *testing.T, seeds uint64, alike int, do func(d draw, w truth, l api.Lease, nets []*post.Net)) {
	t.Helper()
	for seed := range seeds {
		d := drawn(seed)
		w, l := d.truth(t), d.lease()
		stores := d.stores(w)
		fates := d.fates(len(stores), w)
		for turn := range 5 {
			var nets []*post.Net
			for range alike {
				nets = append(nets, begun(t, stores, fates...))
			}
			do(d, w, l, nets)
			if t.Failed() {
				t.Fatalf("seed %d, turn %d, %v", seed, turn, w.four)
			}
			if len(stores) == 0 {
				break
			}
			fates = d.turn(w, fates, len(stores), nets[0].Transcript())
		}
	}
}

func sameTrace(a, b []api.Exchange) bool {
	return slices.EqualFunc(a, b, func(a, b api.Exchange) bool {
		return a.Number == b.Number && a.Server == b.Server && a.Sent == b.Sent && a.Came == b.Came && a.Tick == b.Tick && bytes.Equal(a.Request, b.Request) && bytes.Equal(a.Reply, b.Reply)
	})
}

// TestP28_2Model: repairs of files and of what is none, on nets with any shares and fates, ask and tell what the chapter's words say.
func TestP28_2Model(t *testing.T) {
	ends, stored, left := map[api.Errno]int{}, 0, 0
	repairs(t, 1200, 1, func(d draw, w truth, l api.Lease, nets []*post.Net) {
		n := nets[0]
		r, e := repair.Repair(n, w.v, l)
		wantFollowed(t, "Repair", w, n.Servers(), l, n.Transcript(), r, e)
		ends[e]++
		stored += len(r.Stored)
		if len(r.Stored) > 0 && e == api.ErrLacks {
			left++
		}
	})
	if ends[api.OK] < 1000 || ends[api.ErrFew] < 1000 || ends[api.ErrWrong] < 300 || ends[api.ErrLacks] < 300 || stored < 1000 || left < 100 {
		t.Errorf("%v, %d stored, %d times some of those that lack", ends, stored, left)
	}
}

// TestP28_2Again: on a net that was used and whose ticks went on, too: repairs one behind the other.
func TestP28_2Again(t *testing.T) {
	for seed := range uint64(300) {
		d := drawn(9000 + seed)
		w := d.truth(t)
		stores := d.stores(w)
		n := begun(t, stores, d.fates(len(stores), w)...)
		for range 4 {
			n.Wait(d.IntN(9))
			from, l := n.Made(), d.lease()
			r, e := repair.Repair(n, w.v, l)
			wantFollowed(t, "again", w, n.Servers(), l, n.Transcript()[from:], r, e)
			if t.Failed() {
				t.Fatalf("seed %d", seed)
			}
		}
	}
}

// TestR4Runs: however goroutines run, a repair asks and answers the same, and leaves none behind.
func TestR4Runs(t *testing.T) {
	defer runtime.GOMAXPROCS(runtime.GOMAXPROCS(0))
	before := runtime.NumGoroutine()
	w := truthOf(t, four{5, 30, 40, 300}, 3)
	var first []api.Exchange
	var told api.Repaired
	for run := range 30 {
		runtime.GOMAXPROCS(1 + run%8)
		d := drawn(78)
		stores := holding(w.v.Index, w.shares, slices.Repeat([][]int{{3, 7, 11}, {2, 7}, {20}, {29}, nil}, 4)...)
		n := begun(t, stores, d.fates(20, w)...)
		r, e := repair.Repair(n, w.v, lease(1, 1000))
		trace := n.Transcript()
		if run == 0 {
			first, told = trace, r
		}
		if e != api.OK || len(r.Stored) == 0 || !sameRepaired(r, told) || !sameTrace(trace, first) {
			t.Fatalf("run %d, %d differs from the first: %+v", run, e, r)
		}
	}
	for range 1000 {
		if runtime.NumGoroutine() <= before {
			return
		}
		time.Sleep(time.Millisecond) // one that has done its last thing may need a moment to be gone
	}
	t.Errorf("%d goroutines, %d before", runtime.NumGoroutine(), before)
}
