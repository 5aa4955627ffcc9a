package get_test

import (
	"bytes"
	"fmt"
	"math/rand/v2"
	"runtime"
	"slices"
	"testing"
	"time"

	"strongroom/api"
	"strongroom/get"
	"strongroom/post"
)

// draw draws things by a fixed seed.
type draw struct{ *rand.Rand }

func drawn(seed uint64) draw { return draw{rand.New(rand.NewPCG(seed, 26))} }

// shape draws parameters and a size.
func (d draw) shape() four {
	n := 1 + d.IntN(6)
	k := 1 + d.IntN(min(n, 4))
	return four{k, n, 20 + d.IntN(60), 33 + d.IntN(150)}
}

// file draws a file and its parameters.
func (d draw) file(t *testing.T) truth {
	s := d.shape()
	return truthOf(t, filled(s[3], d.IntN(1000)), params(s[0], s[1], s[2]))
}

// truth draws a file, or now and then what is none.
func (d draw) truth(t *testing.T) truth {
	w := d.file(t)
	if d.IntN(3) > 0 {
		return w
	}
	var segments []int
	if d.IntN(2) == 0 {
		segments = append(segments, d.IntN(w.four.segs()))
	}
	second := d.Perm(w.four[1])[:d.IntN(w.four[1]/2+1)]
	return mixed(t, w.four, d.IntN(100), second, segments...)
}

// bent turns a bit of bytes, which are not empty.
func (d draw) bent(b []byte) []byte {
	b = bytes.Clone(b)
	b[d.IntN(len(b))] ^= 1 << d.IntN(8)
	return b
}

// stores draws servers that have some of the shares, some of these not as they must be, some not for long.
func (d draw) stores(w truth) []api.Store {
	stores := make([]api.Store, d.IntN(7))
	for s := range stores {
		stores[s].Room = api.MaxRoom
		for number, share := range w.shares {
			if d.IntN(2) == 0 {
				continue
			}
			k := kept(w.index, number, share)
			switch d.IntN(12) {
			case 0:
				k.Bytes = d.bent(share)
			case 1:
				k.Bytes = share[:d.IntN(len(share))]
			case 2:
				k.Bytes = w.shares[d.IntN(len(w.shares))]
			case 3:
				k.Leases[0].Until = d.IntN(60)
			}
			stores[s].Kept = append(stores[s].Kept, k)
		}
	}
	return stores
}

// reply draws the bytes of a lie.
func (d draw) reply(w truth) []byte {
	number, j := d.IntN(w.four[1]), d.IntN(w.four.segs())
	var l []byte
	for i := range byte(w.four[1] + 2) {
		if d.IntN(2) == 0 {
			l = append(l, i)
		}
	}
	replies := [][]byte{
		nil, {repNone}, {repRefused}, {repStored}, {5}, numbers(l...), numbers(l...), numbers(l...), append(numbers(l...), 0), numbers(2, 1), numbers(255),
		brought(w.front(number)), brought(d.bent(w.front(number))), d.bent(brought(w.front(number))), w.front(number),
		brought(w.block(number, j)), brought(w.block(number, j)), brought(d.bent(w.block(number, j))), w.block(number, j),
	}
	return replies[d.IntN(len(replies))]
}

// fate draws a fate: often an honest one.
func (d draw) fate(w truth) api.Fate {
	switch d.IntN(8) {
	case 0:
		return drop()
	case 1:
		return []api.Fate{lose(), late(), {}}[d.IntN(3)]
	case 2, 3:
		f := lie(d.reply(w)...)
		f.Delay = d.IntN(13)
		return f
	}
	return honest(d.IntN(11))
}

func (d draw) fates(servers int, w truth) [][]api.Fate {
	rows := make([][]api.Fate, d.IntN(servers+1))
	for i := range rows {
		for range d.IntN(8) {
			rows[i] = append(rows[i], d.fate(w))
		}
	}
	return rows
}

// turn has one of the calls of a read come to something else than it did: the rows of fates are such as would come to just the same up to there.
func (d draw) turn(w truth, rows [][]api.Fate, servers int, trace []api.Exchange) [][]api.Fate {
	out := make([][]api.Fate, servers)
	for i, row := range rows {
		out[i] = slices.Clone(row)
	}
	at := d.IntN(len(trace))
	x, m := trace[at], 0
	for _, ahead := range trace[:at] {
		if ahead.Server == x.Server {
			m++
		}
	}
	for len(out[x.Server]) <= m {
		out[x.Server] = append(out[x.Server], honest(1))
	}
	f := d.fate(w)
	if x.Came && len(x.Reply) > 0 && d.IntN(4) == 0 {
		f = lie(d.bent(x.Reply)...)
	}
	out[x.Server][m] = f
	return out
}

// wantBatches: each batch was sent at one tick, and each behind the one ahead of it.
func wantBatches(t *testing.T, trace []api.Exchange, batches []int) {
	t.Helper()
	sent := -1
	for _, calls := range batches {
		if trace[0].Sent <= sent {
			t.Errorf("a batch at %d, one ahead of it at %d", trace[0].Sent, sent)
		}
		sent = trace[0].Sent
		for _, x := range trace[:calls] {
			if x.Sent != sent {
				t.Errorf("a call at %d in a batch at %d", x.Sent, sent)
			}
		}
		trace = trace[calls:]
	}
}

// wantOnce: no call is made twice.
func wantOnce(t *testing.T, trace []api.Exchange) {
	t.Helper()
	type made struct {
		server  int
		request string
	}
	seen := map[made]bool{}
	for _, x := range trace {
		m := made{x.Server, string(x.Request)}
		if seen[m] {
			t.Errorf("%x was asked of %d twice", x.Request, x.Server)
		}
		seen[m] = true
	}
}

// wantBound: what was brought leads up to the Ueb that was brought, and that to the capability.
func wantBound(t *testing.T, c api.Read, g api.Got) {
	t.Helper()
	if tagged("ueb", g.Ueb) != c.Ueb {
		t.Error("it is not the capability's Ueb")
	}
	var leaves []api.Digest
	for _, segment := range g.Segs {
		leaves = append(leaves, tagged("segment", segment))
	}
	if root := over(leaves)[0]; !bytes.Contains(g.Ueb, append([]byte("8:segments,32:"), root[:]...)) {
		t.Error("the segments do not lead to it")
	}
}

// wantFollowed holds a read of segments against the words, along its calls; what it comes to.
func wantFollowed(t *testing.T, w truth, n *post.Net, from, first, last int, g api.Got, e api.Errno) {
	t.Helper()
	trace := n.Transcript()[from:]
	want, at, wanted, batches := w.follow(t, n.Servers(), first, last, trace)
	if wanted == api.ErrTrace {
		t.Errorf("of %d calls the one at %d does not fit", len(trace), at)
		return
	}
	wantGot(t, "read", g, e, want, wanted)
	wantBatches(t, trace, batches)
	wantOnce(t, trace)
	if most := n.Servers() + n.Servers()*w.four[1]*(1+last-first+1); len(trace) > most || g.Requests != len(trace) {
		t.Errorf("%d calls, %d requests, at most %d", len(trace), g.Requests, most)
	}
}

// count counts what reads came to.
type count map[api.Errno]int

// atLeast fails unless each of some errors was there often enough to tell much.
func (c count) atLeast(t *testing.T, times int, errors ...api.Errno) {
	t.Helper()
	for _, e := range errors {
		if c[e] < times {
			t.Errorf("error %d: %d times alone", e, c[e])
		}
	}
}

// reads does something with many nets, each net being another one than the last by one fate on the way.
func reads(t *testing.T, seeds uint64, do func(d draw, w truth, n *post.Net)) {
	t.Helper()
	for seed := range seeds {
		d := drawn(seed)
		w := d.truth(t)
		stores := d.stores(w)
		fates := d.fates(len(stores), w)
		for turn := range 8 {
			n := begun(t, stores, fates...)
			do(d, w, n)
			if t.Failed() {
				t.Fatalf("seed %d, turn %d, %v", seed, turn, w.four)
			}
			if n.Made() == 0 {
				break
			}
			fates = d.turn(w, fates, len(stores), n.Transcript())
		}
	}
}

// TestP26_1Model: reads of files and of what is none, on nets with any shares and fates, ask and bring what the chapter's words say.
func TestP26_1Model(t *testing.T) {
	c := count{}
	reads(t, 700, func(d draw, w truth, n *post.Net) {
		g, e := get.Get(n, w.cap)
		wantFollowed(t, w, n, 0, 0, w.four.segs()-1, g, e)
		if e == api.OK {
			wantBound(t, w.cap, g)
			if w.file != nil && !bytes.Equal(g.File, w.file) {
				t.Error("another file")
			}
		}
		c[e]++
	})
	c.atLeast(t, 400, api.OK, api.ErrFew, api.ErrWrong)
}

// TestP26_2Model: likewise of stretches.
func TestP26_2Model(t *testing.T) {
	c := count{}
	reads(t, 500, func(d draw, w truth, n *post.Net) {
		at := d.IntN(w.four[3])
		size := 1 + d.IntN(w.four[3]-at)
		first, last := w.touched(at, size)
		g, e := get.Range(n, w.cap, at, size)
		if e == api.OK {
			whole := w.got(first, g.Segs, g.Requests).File
			if part := whole[at-first*w.four[2]:][:size]; !bytes.Equal(g.File, part) || w.file != nil && !bytes.Equal(part, w.file[at:at+size]) {
				t.Errorf("another stretch: %s", short(g))
			}
			g.File = whole // of the stretch alone enough was said
		}
		wantFollowed(t, w, n, 0, first, last, g, e)
		c[e]++
	})
	c.atLeast(t, 200, api.OK, api.ErrFew, api.ErrWrong)
}

// TestP26_5Again: on a net that was used and whose ticks went on, too: reads one behind the other, each counted for itself.
func TestP26_5Again(t *testing.T) {
	for seed := range uint64(150) {
		d := drawn(9000 + seed)
		w := d.truth(t)
		stores := d.stores(w)
		n := begun(t, stores, d.fates(len(stores), w)...)
		for range 4 {
			n.Wait(d.IntN(9))
			from := n.Made()
			g, e := get.Get(n, w.cap)
			wantFollowed(t, w, n, from, 0, w.four.segs()-1, g, e)
			if t.Failed() {
				t.Fatalf("seed %d", seed)
			}
		}
	}
}

// TestP26_9Enough: K numbers, each on a server that is honest and in time, bring the file, whatever all others do.
func TestP26_9Enough(t *testing.T) {
	turned := 0
	for seed := range uint64(400) {
		d := drawn(20000 + seed)
		w := d.file(t)
		stores := d.stores(w)
		good := len(stores) // from this one on they are honest
		fates := append(d.fates(good, w), make([][]api.Fate, good)...)[:good]
		for range 1 + d.IntN(3) {
			var row []api.Fate
			for range 40 {
				row = append(row, honest(1+d.IntN(api.Patience)))
			}
			stores, fates = append(stores, api.Store{Room: api.MaxRoom}), append(fates, row)
		}
		numbers := d.Perm(w.four[1])[:w.four[0]]
		slices.Sort(numbers)
		for _, number := range numbers {
			s := &stores[good+d.IntN(len(stores)-good)]
			s.Kept = append(s.Kept, kept(w.index, number, w.shares[number]))
		}
		for range 8 {
			n := begun(t, stores, fates...)
			g, e := get.Get(n, w.cap)
			if e != api.OK || !bytes.Equal(g.File, w.file) {
				t.Fatalf("seed %d: %s, %d", seed, short(g), e)
			}
			trace := slices.DeleteFunc(n.Transcript(), func(x api.Exchange) bool { return x.Server >= good })
			if len(trace) == 0 {
				break
			}
			fates = d.turn(w, fates, len(stores), trace)
			turned++
		}
	}
	if turned < 1000 {
		t.Errorf("%d nets alone", turned)
	}
}

// TestP1Requests: no read, of the whole or of a stretch, makes more requests than S + S * N * (1 + Segs), though all servers claim all numbers, and each fails as late as it may.
func TestP1Requests(t *testing.T) {
	for _, s := range []four{{1, 1, 40, 100}, {1, 4, 40, 130}, {2, 3, 40, 130}, {3, 3, 12, 60}, {2, 9, 20, 100}} {
		w := truthOf(t, filled(s[3], 8), params(s[0], s[1], s[2]))
		every := spread(s[1], 1)[0]
		for _, servers := range []int{1, 3, 32} {
			most := servers + servers*s[1]*(1+w.four.segs())
			stores := holding(w.index, w.shares, slices.Repeat([][]int{every}, servers)...)
			for stand := range s[0]*(2+w.four.segs()) + 2 {
				for _, f := range []api.Fate{drop(), lie(repNone), lie(numbers(0)...)} {
					row := append(slices.Repeat([]api.Fate{honest(1)}, stand), slices.Repeat([]api.Fate{f}, most)...)
					n := begun(t, stores, slices.Repeat([][]api.Fate{row}, servers)...)
					g, e := get.Get(n, w.cap)
					wantFollowed(t, w, n, 0, 0, w.four.segs()-1, g, e)
					if g.Requests > most || n.Made() != g.Requests || e != api.OK && e != api.ErrFew {
						t.Errorf("%v, %d servers that stand %d calls: %s, %d, at most %d", s, servers, stand, short(g), e, most)
					}
					n = begun(t, stores, slices.Repeat([][]api.Fate{row}, servers)...)
					if g, _ := get.Range(n, w.cap, s[3]-1, 1); g.Requests > servers+servers*s[1]*2 || n.Made() != g.Requests {
						t.Errorf("%v, %d servers that stand %d calls: %s for one byte", s, servers, stand, short(g))
					}
				}
			}
		}
	}
}

// TestP4Liars: all other servers claim all numbers, hand out true fronts, and then fail, early or late.
func TestP4Liars(t *testing.T) {
	for _, s := range []four{{1, 1, 40, 100}, {2, 3, 40, 130}, {3, 3, 12, 60}, {4, 7, 20, 100}} {
		w := truthOf(t, filled(s[3], 7), params(s[0], s[1], s[2]))
		var all []byte
		for i := range s[1] {
			all = append(all, byte(i))
		}
		for stand := range w.four.segs() + 1 {
			for what, f := range map[string]api.Fate{"silent": drop(), "late": late(), "none": lie(repNone), "other bytes": lie(brought(make([]byte, w.four.blockLen(0)))...)} {
				every := spread(s[1], 1)[0]
				stores := holding(w.index, w.shares, every, every, every, every, every, every[:s[0]])
				row := []api.Fate{lie(numbers(all...)...)}
				for range s[0] * (1 + stand) {
					row = append(row, honest(1))
				}
				row = append(row, slices.Repeat([]api.Fate{f}, 200)...)
				n := begun(t, stores, row, row, row, row, row)
				g, e := get.Get(n, w.cap)
				if most, _ := get.Most(w.cap, 6); e != api.OK || !bytes.Equal(g.File, w.file) || g.Requests > most {
					t.Errorf("%v, %d segments, then %s: %s, %d", s, stand, what, short(g), e)
				}
				wantFollowed(t, w, n, 0, 0, w.four.segs()-1, g, e)
			}
		}
	}
}

// TestP26_4Most: servers + servers * N * (1 + Segs).
func TestP26_4Most(t *testing.T) {
	c := api.Read{K: 3, N: 10, Seg: 66, Size: 1000} // 16 segments
	for _, x := range []struct {
		c             api.Read
		servers, want int
	}{{c, 1, 171}, {c, 2, 342}, {c, 32, 5472}, {api.Read{K: 1, N: 1, Seg: 50, Size: 50}, 1, 3}, {api.Read{K: 255, N: 255, Seg: 255, Size: 512 * 255}, 32, 32 + 32*255*513}} {
		if m, e := get.Most(x.c, x.servers); m != x.want || e != api.OK {
			t.Errorf("%+v, %d: %d, %d, want %d", x.c, x.servers, m, e, x.want)
		}
	}
	for _, servers := range append(odd(), 0, 33, 64, 255) {
		if m, e := get.Most(c, servers); m != 0 || e != api.ErrArg {
			t.Errorf("%d servers: %d, %d", servers, m, e)
		}
	}
	for _, bad := range badCaps(c) {
		for _, servers := range []int{0, 1, 32, 33} {
			if m, e := get.Most(bad, servers); m != 0 || e != api.ErrCap {
				t.Errorf("%+v: %d, %d", bad, m, e)
			}
		}
	}
}

// TestP26_5Most: there are nets of which a read asks all that it may.
func TestP26_5Most(t *testing.T) {
	for _, s := range []four{{1, 1, 40, 100}, {3, 3, 12, 100}, {7, 7, 14, 45}, {20, 20, 60, 70}} {
		w := truthOf(t, filled(s[3], 1), params(s[0], s[1], s[2]))
		most, _ := get.Most(w.cap, 1)
		n := begun(t, holding(w.index, w.shares, spread(s[1], 1)...))
		wantGet(t, fmt.Sprint(s), n, w.cap, w.whole(most), api.OK)
	}
}

// TestR4Runs: however goroutines run, a read asks and answers the same, and leaves none behind.
func TestR4Runs(t *testing.T) {
	defer runtime.GOMAXPROCS(runtime.GOMAXPROCS(0))
	before := runtime.NumGoroutine()
	w := truthOf(t, filled(700, 3), params(5, 30, 40))
	var first []api.Exchange
	var brought api.Got
	for run := range 30 {
		runtime.GOMAXPROCS(1 + run%8)
		d := drawn(77)
		n := begun(t, holding(w.index, w.shares, spread(30, 20)...), d.fates(20, w)...)
		g, e := get.Get(n, w.cap)
		trace := n.Transcript()
		if run == 0 {
			first, brought = trace, g
		}
		if e != api.OK || !sameGot(g, brought) || !slices.EqualFunc(trace, first, func(a, b api.Exchange) bool {
			return a.Server == b.Server && a.Sent == b.Sent && a.Came == b.Came && a.Tick == b.Tick && bytes.Equal(a.Request, b.Request) && bytes.Equal(a.Reply, b.Reply)
		}) {
			t.Fatalf("run %d, %d differs from the first", run, e)
		}
	}
	for range 1000 {
		if runtime.NumGoroutine() <= before {
			return
		}
		time.Sleep(time.Millisecond) // one that has done its last thing may need a moment to be gone
	}
	t.Errorf("%d goroutines, %d before", runtime.NumGoroutine(), before)
}
