package check_test

import (
	"bytes"
	"math/rand/v2"
	"runtime"
	"slices"
	"testing"
	"time"

	"strongroom/api"
	"strongroom/check"
	"strongroom/post"
)

// draw draws things by a fixed seed.
type draw struct{ *rand.Rand }

func drawn(seed uint64) draw { return draw{rand.New(rand.NewPCG(seed, 27))} }

// shape draws parameters and a size.
func (d draw) shape() four {
	n := 1 + d.IntN(6)
	k := 1 + d.IntN(min(n, 4))
	return four{k, n, k * (20/k + 1 + d.IntN(20)), 33 + d.IntN(150)}
}

// truth draws a file, or now and then what is none.
func (d draw) truth(t *testing.T) truth {
	s := d.shape()
	if d.IntN(3) == 0 {
		return noFile(s, d.IntN(1000))
	}
	return truthOf(t, s, d.IntN(1000))
}

// bent turns a bit of bytes, which are not empty.
func (d draw) bent(b []byte) []byte {
	b = bytes.Clone(b)
	b[d.IntN(len(b))] ^= 1 << d.IntN(8)
	return b
}

// stores draws servers that have some of the shares, some of these not as they must be, some not for long.
func (d draw) stores(w truth) []api.Store {
	stores := make([]api.Store, d.IntN(7))
	for s := range stores {
		stores[s].Room = api.MaxRoom
		for number, share := range w.shares {
			if d.IntN(3) == 0 {
				continue
			}
			k := kept(w.v.Index, number, share)
			switch d.IntN(14) {
			case 0:
				k.Bytes = d.bent(share)
			case 1:
				k.Bytes = share[:d.IntN(len(share))]
			case 2:
				k.Bytes = w.shares[d.IntN(len(w.shares))]
			case 3:
				k.Leases[0].Until = d.IntN(60)
			case 4:
				k.Bytes = append(bytes.Clone(share), 7)
			}
			stores[s].Kept = append(stores[s].Kept, k)
		}
		for number := w.four[1]; number < w.four[1]+d.IntN(3); number++ {
			stores[s].Kept = append(stores[s].Kept, kept(w.v.Index, number, w.shares[0]))
		}
	}
	return stores
}

// reply draws the bytes of a lie.
func (d draw) reply(w truth) []byte {
	number, j := d.IntN(w.four[1]), d.IntN(w.four.segs())
	var l []byte
	for i := range byte(w.four[1] + 2) {
		if d.IntN(2) == 0 {
			l = append(l, i)
		}
	}
	replies := [][]byte{
		nil, {repNone}, {repRefused}, {repStored}, {repFull}, {repOther}, {5}, numbers(l...), numbers(l...), numbers(l...), append(numbers(l...), 0), numbers(2, 1), numbers(255),
		brought(w.front(number)), brought(d.bent(w.front(number))), d.bent(brought(w.front(number))), w.front(number),
		brought(w.block(number, j)), brought(w.block(number, j)), brought(d.bent(w.block(number, j))), w.block(number, j),
	}
	return replies[d.IntN(len(replies))]
}

// fate draws a fate: often an honest one.
func (d draw) fate(w truth) api.Fate {
	switch d.IntN(9) {
	case 0:
		return []api.Fate{drop(), lose(), late(), {}}[d.IntN(4)]
	case 1, 2:
		f := lie(d.reply(w)...)
		f.Delay = d.IntN(13)
		return f
	}
	return honest(d.IntN(11))
}

func (d draw) fates(servers int, w truth) [][]api.Fate {
	rows := make([][]api.Fate, d.IntN(servers+1))
	for i := range rows {
		for range d.IntN(30) {
			rows[i] = append(rows[i], d.fate(w))
		}
	}
	return rows
}

// inTime draws rows of fates that are all honest and in time.
func (d draw) inTime(servers int) [][]api.Fate {
	rows := make([][]api.Fate, servers)
	for i := range rows {
		for range d.IntN(40) {
			rows[i] = append(rows[i], honest(d.IntN(api.Patience+2)-1))
		}
	}
	return rows
}

// turn has one of the calls of a check come to something else than it did: the rows of fates are such as would come to just the same up to there.
func (d draw) turn(w truth, rows [][]api.Fate, servers int, trace []api.Exchange) [][]api.Fate {
	out := make([][]api.Fate, servers)
	for i, row := range rows {
		out[i] = slices.Clone(row)
	}
	at := d.IntN(len(trace))
	x, m := trace[at], 0
	for _, ahead := range trace[:at] {
		if ahead.Server == x.Server {
			m++
		}
	}
	for len(out[x.Server]) <= m {
		out[x.Server] = append(out[x.Server], honest(1))
	}
	f := d.fate(w)
	if x.Came && len(x.Reply) > 0 && d.IntN(4) == 0 {
		f = lie(d.bent(x.Reply)...)
	}
	out[x.Server][m] = f
	return out
}

// checks does something with many nets, each net being another one than the last by one fate on the way; of each as many are handed out as are asked for.
func checks(t *testing.T, seeds uint64, alike int, do func(d draw, w truth, nets []*post.Net)) {
	t.Helper()
	for seed := range seeds {
		d := drawn(seed)
		w := d.truth(t)
		stores := d.stores(w)
		fates := d.fates(len(stores), w)
		for turn := range 6 {
			var nets []*post.Net
			for range alike {
				nets = append(nets, begun(t, stores, fates...))
			}
			do(d, w, nets)
			if t.Failed() {
				t.Fatalf("seed %d, turn %d, %v", seed, turn, w.four)
			}
			if len(stores) == 0 {
				break
			}
			fates = d.turn(w, fates, len(stores), nets[0].Transcript())
		}
	}
}

func sameTrace(a, b []api.Exchange) bool {
	return slices.EqualFunc(a, b, func(a, b api.Exchange) bool {
		return a.Number == b.Number && a.Server == b.Server && a.Sent == b.Sent && a.Came == b.Came && a.Tick == b.Tick && bytes.Equal(a.Request, b.Request) && bytes.Equal(a.Reply, b.Reply)
	})
}

// TestP27_2Model: checks of files and of what is none, on nets with any shares and fates, ask and tell what the chapter's words say; Shares asks and tells the same, and the blocks besides.
func TestP27_2Model(t *testing.T) {
	good, bad, silent, all, few := 0, 0, 0, 0, 0
	checks(t, 600, 2, func(d draw, w truth, nets []*post.Net) {
		c, e := check.Check(nets[0], w.v)
		trace := nets[0].Transcript()
		wantFollowed(t, "Check", w, nets[0].Servers(), trace, c, e)
		s, blocks, e := check.Shares(nets[1], w.v)
		wantChecked(t, "Shares", s, e, c, api.OK)
		if !sameTrace(trace, nets[1].Transcript()) {
			t.Error("Shares asks something else than Check")
		}
		if !sameBlocks(blocks, w.rows(c.Good)) {
			t.Errorf("other blocks, of %d pairs", len(blocks))
		}
		wantSplit(t, w, nets[0].Servers(), trace, c)
		good, bad, silent = good+len(c.Good), bad+len(c.Bad), silent+len(c.Silent)
		if c.All {
			all++
		}
		if !c.Enough {
			few++
		}
	})
	if good < 5000 || bad < 5000 || silent < 1000 || all < 500 || few < 500 {
		t.Errorf("%d good, %d bad, %d silent, %d times all, %d times too few", good, bad, silent, all, few)
	}
}

// TestP27_2Again: on a net that was used and whose ticks went on, too: checks one behind the other.
func TestP27_2Again(t *testing.T) {
	for seed := range uint64(150) {
		d := drawn(9000 + seed)
		w := d.truth(t)
		stores := d.stores(w)
		n := begun(t, stores, d.fates(len(stores), w)...)
		for range 4 {
			n.Wait(d.IntN(9))
			from := n.Made()
			c, e := check.Check(n, w.v)
			wantFollowed(t, "again", w, n.Servers(), n.Transcript()[from:], c, e)
			if t.Failed() {
				t.Fatalf("seed %d", seed)
			}
		}
	}
}

// TestR4Runs: however goroutines run, a check asks and answers the same, and leaves none behind.
func TestR4Runs(t *testing.T) {
	defer runtime.GOMAXPROCS(runtime.GOMAXPROCS(0))
	before := runtime.NumGoroutine()
	w := truthOf(t, four{5, 12, 40, 300}, 3)
	var first []api.Exchange
	var told api.Checked
	var brought [][][]byte
	for run := range 30 {
		runtime.GOMAXPROCS(1 + run%8)
		d := drawn(77)
		n := begun(t, holding(w.v.Index, w.shares, slices.Repeat([][]int{upTo(12)}, 20)...), d.fates(20, w)...)
		c, blocks, e := check.Shares(n, w.v)
		trace := n.Transcript()
		if run == 0 {
			first, told, brought = trace, c, blocks
		}
		if e != api.OK || !sameChecked(c, told) || !sameBlocks(blocks, brought) || !sameTrace(trace, first) {
			t.Fatalf("run %d, %d differs from the first", run, e)
		}
	}
	for range 1000 {
		if runtime.NumGoroutine() <= before {
			return
		}
		time.Sleep(time.Millisecond) // one that has done its last thing may need a moment to be gone
	}
	t.Errorf("%d goroutines, %d before", runtime.NumGoroutine(), before)
}
