package post_test

import (
	"bytes"
	"math"
	"slices"
	"testing"

	"strongroom/api"
)

// TestP21_2NoSuchServer: no call of such a batch is made: no share comes in, no fate is used, no tick goes by.
func TestP21_2NoSuchServer(t *testing.T) {
	n := begun(t, rooms(9, 9), []api.Fate{lie(4, 6)})
	for _, no := range []int{-1, 2, 3, math.MinInt, math.MaxInt} {
		for place := range 3 {
			batch := slices.Insert([]api.Call{to(0, store(x, 0, "a", 1, 5)), to(1, store(x, 0, "a", 1, 5))}, place, to(no, have(x)))
			wantRefused(t, n, batch, api.ErrArg)
		}
	}
	wantAt(t, n, 0, 0)
	wantStore(t, n, 0, api.Store{Room: 9})
	wantStore(t, n, 1, api.Store{Room: 9})
	wantAsk(t, n, []api.Call{to(0, have(x))}, came(0, 4, 6))
}

// TestP21_2Rows: each server has a row of its own, and its fates are used call by call, in whatever batches they come.
func TestP21_2Rows(t *testing.T) {
	n := begun(t, rooms(9, 9, 9), []api.Fate{lie(1, 10), lie(1, 11), lie(1, 12), lie(1, 13)}, nil, []api.Fate{lie(1, 20), lie(1, 21)})
	wantAsk(t, n, []api.Call{to(0, nil)}, came(0, 1, 10))
	wantAsk(t, n, []api.Call{to(2, nil), to(1, nil), to(0, nil), to(0, nil), to(2, nil)}, came(0, 2, 20), came(1, 2, 7), came(2, 2, 11), came(3, 2, 12), came(4, 2, 21))
	wantAsk(t, n, []api.Call{to(2, nil), to(1, have(x)), to(0, nil)}, came(0, 3, 7), came(1, 3, 1, 0), came(2, 3, 13))
	wantAsk(t, n, []api.Call{to(0, have(x)), to(2, have(x))}, came(0, 4, 1, 0), came(1, 4, 1, 0))
	wantAt(t, n, 4, 11)
}

// TestP21_2Done: which fates let the server do the request.
func TestP21_2Done(t *testing.T) {
	fates := []api.Fate{honest(1), lose(1), drop(1), lie(1, 2), {Kind: 0, Delay: 1}, {Kind: 5, Delay: 1}, {Kind: 255, Delay: 1}, honest(11), lose(11), honest(math.MaxInt), honest(math.MinInt), lie(11, 2), drop(11)}
	n := begun(t, rooms(99), fates)
	var batch []api.Call
	for i := range fates {
		batch = append(batch, to(0, store(x, i, "a", 1, 50)))
	}
	wantAsk(t, n, batch, came(0, 1, 2), came(3, 1, 2), came(10, 1, 2), silent(1, 10), silent(2, 10), silent(4, 10), silent(5, 10), silent(6, 10), silent(7, 10), silent(8, 10), silent(9, 10), silent(11, 10), silent(12, 10))
	wantAsk(t, n, []api.Call{to(0, have(x))}, came(0, 11, 1, 6, 0, 1, 7, 8, 9, 10))
}

// TestP21_2InTurn: one server does its calls in the order of the batch, whatever stands between them, and whenever the replies come.
func TestP21_2InTurn(t *testing.T) {
	n := begun(t, rooms(2, 2), []api.Fate{honest(9), honest(8), honest(7), honest(6), honest(5)}, []api.Fate{honest(2), honest(2), honest(2)})
	wantAsk(t, n, []api.Call{
		to(0, store(x, 0, "ab", 1, 50)),
		to(1, have(x)),
		to(0, store(x, 1, "c", 1, 50)), // full
		to(0, release(x, 1)),
		to(1, store(x, 1, "c", 1, 50)),
		to(0, store(x, 1, "c", 1, 50)),
		to(1, have(x)),
		to(0, have(x)),
	}, came(1, 2, 1, 0), came(4, 2, 2), came(6, 2, 1, 1, 1), came(7, 5, 1, 1, 1), came(5, 6, 2), came(3, 7, 1, 1, 0), came(2, 8, 3), came(0, 9, 2))
}

// TestP21_2NoRequest: bytes that are no request are refused, and nothing is done; a request that the server refuses is told likewise.
func TestP21_2NoRequest(t *testing.T) {
	held := []api.Kept{share(x, 2, "ab", 50)}
	n := begun(t, []api.Store{{Room: 9, Kept: held}})
	long, cut := append(release(x, 1), 0), release(x, 1)[:20]
	batch := []api.Call{to(0, nil), to(0, []byte{}), to(0, []byte{0}), to(0, []byte{9}), to(0, long), to(0, cut), to(0, []byte{7})}
	var want []api.Answer
	for i := range batch {
		want = append(want, came(i, 1, 7))
	}
	wantAsk(t, n, batch, want...)
	wantStore(t, n, 0, api.Store{Room: 9, Tick: 1, Kept: held})
	wantAsk(t, n, []api.Call{to(0, store(x, 3, "c", 1, 0))}, came(0, 2, 7)) // its lease does not run
	wantStore(t, n, 0, api.Store{Room: 9, Tick: 2, Kept: held})
}

// TestP21_2NoRequestLost: whatever becomes of the reply, such bytes do nothing.
func TestP21_2NoRequestLost(t *testing.T) {
	n := begun(t, rooms(9, 9), []api.Fate{lose(1), honest(11), honest(0)})
	wantAsk(t, n, []api.Call{to(0, []byte{9}), to(0, nil), to(0, nil)}, came(2, 1, 7), silent(0, 10), silent(1, 10))
	wantStore(t, n, 0, api.Store{Room: 9, Tick: 10})
}

// TestP21_2AtTheTick: requests are done at the tick ahead of the batch, not at that of the reply.
func TestP21_2AtTheTick(t *testing.T) {
	n := begun(t, rooms(9, 9), []api.Fate{honest(5), honest(1)}, []api.Fate{lose(1), honest(5)})
	wantWait(t, n, 20, api.OK)
	wantAsk(t, n, []api.Call{to(0, store(x, 0, "a", 1, 20)), to(0, have(x)), to(1, store(x, 0, "a", 1, 20)), to(1, have(x))}, came(1, 21, 1, 1, 0), came(0, 25, 2), came(3, 25, 1, 1, 0), silent(2, 30))
	wantAt(t, n, 30, 4)
	wantStore(t, n, 0, api.Store{Room: 9, Tick: 30})
	wantAsk(t, n, []api.Call{to(0, store(x, 0, "a", 1, 29)), to(0, store(x, 0, "a", 1, 30)), to(1, have(x))}, came(0, 31, 7), came(1, 31, 2), came(2, 31, 1, 0))
}

// TestP21_2Delay: when the replies come, kind by kind.
func TestP21_2Delay(t *testing.T) {
	for _, c := range []struct{ delay, comes int }{
		{math.MinInt, 1}, {-api.MaxDelay, 1}, {-1, 1}, {0, 1}, {1, 1}, {2, 2}, {9, 9}, {10, 10},
		{11, 0}, {12, 0}, {999, 0}, {1000, 0}, {1001, 0}, {1 << 32, 0}, {1<<32 + 1, 0}, {api.MaxTick, 0}, {math.MaxInt, 0},
	} {
		for _, f := range []api.Fate{honest(c.delay), lie(c.delay, 1, 0), drop(c.delay), lose(c.delay), {Delay: c.delay}, {Kind: 6, Delay: c.delay, Bytes: []byte{1, 0}}} {
			n := begun(t, rooms(9), []api.Fate{f})
			wantWait(t, n, 4, api.OK)
			if c.comes > 0 && (f.Kind == api.FateHonest || f.Kind == api.FateLie) {
				wantAsk(t, n, []api.Call{to(0, have(x))}, came(0, 4+c.comes, 1, 0))
				wantAt(t, n, 4+c.comes, 1)
			} else {
				wantAsk(t, n, []api.Call{to(0, have(x))}, silent(0, 14))
				wantAt(t, n, 14, 1)
			}
			if t.Failed() {
				t.Fatalf("kind %d, delay %d", f.Kind, c.delay)
			}
		}
	}
}

// TestP21_2NeverLate: a reply that takes too long comes in no later batch, either.
func TestP21_2NeverLate(t *testing.T) {
	n := begun(t, rooms(9), []api.Fate{honest(11), honest(12), honest(1)})
	wantAsk(t, n, []api.Call{to(0, have(x)), to(0, have(x))}, silent(0, 10), silent(1, 10))
	wantAsk(t, n, nil)
	wantWait(t, n, 1, api.OK)
	wantAsk(t, n, []api.Call{to(0, nil)}, came(0, 12, 7))
	if l := n.Transcript(); len(l) != 3 || l[0].Came || l[1].Came || l[0].Tick != 10 || len(l[0].Reply) != 0 {
		t.Error(l)
	}
}

// TestP21_2Long: the longest reply that is heard, and the longest that a server gives.
func TestP21_2Long(t *testing.T) {
	b := bytes.Repeat([]byte{3, 1, 4}, 1<<16)
	whole := api.Store{Room: 1 << 20, Kept: []api.Kept{{Index: x, Bytes: b[:api.MaxFetch], Leases: []api.Lease{{Until: 99}}}}}
	n := begun(t, []api.Store{whole}, []api.Fate{lie(3, b[:api.MaxReply+1]...), lie(3, b[:api.MaxReply]...), lie(3), lie(3, b...)})
	wantAsk(t, n, []api.Call{to(0, nil), to(0, nil), to(0, nil), to(0, nil)}, came(1, 3, b[:api.MaxReply]...), came(2, 3), silent(0, 10), silent(3, 10))
	wantAsk(t, n, []api.Call{to(0, fetch(x, 0, 0, api.MaxFetch))}, came(0, 11, append([]byte{5, 0, 2, 0, 0}, b[:api.MaxFetch]...)...))
}

// TestP21_2LieOfNothing: a lie without bytes is a reply that comes.
func TestP21_2LieOfNothing(t *testing.T) {
	n := begun(t, rooms(9), []api.Fate{{Kind: api.FateLie}, {Kind: api.FateLie, Delay: 10, Bytes: []byte{}}})
	wantAsk(t, n, []api.Call{to(0, have(x)), to(0, have(x))}, came(0, 1), came(1, 10))
	wantAt(t, n, 10, 2)
}

// TestP21_2End: the batch is over with the last reply, or when patience is.
func TestP21_2End(t *testing.T) {
	for i, c := range []struct {
		fates []api.Fate
		end   int
	}{
		{nil, 0},
		{[]api.Fate{honest(3)}, 3},
		{[]api.Fate{honest(3), honest(7), honest(5)}, 7},
		{[]api.Fate{lie(10), honest(1)}, 10},
		{[]api.Fate{honest(1), honest(-4), honest(0)}, 1},
		{[]api.Fate{drop(1)}, 10},
		{[]api.Fate{lose(1), honest(2)}, 10},
		{[]api.Fate{honest(2), honest(11)}, 10},
		{[]api.Fate{honest(2), {Delay: 1}, honest(3)}, 10},
		{[]api.Fate{lie(1, make([]byte, api.MaxReply+1)...), honest(3)}, 10},
	} {
		n := begun(t, rooms(9, 9, 9), nil, c.fates)
		wantWait(t, n, 100, api.OK)
		if l, e := n.Ask(slices.Repeat([]api.Call{to(1, have(x))}, len(c.fates))); len(l) != len(c.fates) || e != api.OK {
			t.Error(l, e)
		}
		wantAt(t, n, 100+c.end, len(c.fates))
		if t.Failed() {
			t.Fatal(i)
		}
	}
}

// TestP21_2LastTick: near the last tick and at it replies come at it at the latest, those of one tick by number.
func TestP21_2LastTick(t *testing.T) {
	const last = api.MaxTick
	row := []api.Fate{honest(9), lie(4, 1), lie(3, 2), lie(2, 3), lie(1, 4)}
	for _, c := range []struct {
		start int
		want  []api.Answer
	}{
		{last - 9, []api.Answer{came(4, last-8, 4), came(3, last-7, 3), came(2, last-6, 2), came(1, last-5, 1), came(0, last, 7)}},
		{last - 3, []api.Answer{came(4, last-2, 4), came(3, last-1, 3), came(0, last, 7), came(1, last, 1), came(2, last, 2)}},
		{last - 1, []api.Answer{came(0, last, 7), came(1, last, 1), came(2, last, 2), came(3, last, 3), came(4, last, 4)}},
		{last, []api.Answer{came(0, last, 7), came(1, last, 1), came(2, last, 2), came(3, last, 3), came(4, last, 4)}},
	} {
		n := begun(t, rooms(9), row)
		wantWait(t, n, c.start, api.OK)
		wantAsk(t, n, make([]api.Call, 5), c.want...)
		wantAt(t, n, last, 5)
	}
	for _, c := range []struct{ start, end int }{{last - 11, last - 1}, {last - 10, last}, {last - 9, last}, {last - 2, last}, {last, last}} {
		n := begun(t, rooms(9), []api.Fate{drop(1), honest(1), honest(11)})
		wantWait(t, n, c.start, api.OK)
		wantAsk(t, n, make([]api.Call, 3), came(1, min(c.start+1, last), 7), silent(0, c.end), silent(2, c.end))
		wantAt(t, n, c.end, 3)
	}
}

// TestP21_2LastTickGoesOn: at the last tick calls are made and done as ever.
func TestP21_2LastTickGoesOn(t *testing.T) {
	n := begun(t, rooms(9))
	wantWait(t, n, api.MaxTick, api.OK)
	for range 3 {
		wantAsk(t, n, []api.Call{to(0, store(x, 0, "a", 1, api.MaxTick)), to(0, have(x))}, came(0, api.MaxTick, 2), came(1, api.MaxTick, 1, 1, 0))
	}
	wantAt(t, n, api.MaxTick, 6)
}

// TestP21_2Order: replies by tick, those of one tick by number and not by server; behind them the calls without one, by number.
func TestP21_2Order(t *testing.T) {
	n := begun(t, rooms(0, 0, 0), []api.Fate{lie(2, 1), drop(1), lie(1, 2)}, []api.Fate{lose(1), lie(2, 3), lie(2, 4)}, []api.Fate{lie(1, 5), lie(2, 6), honest(11)})
	var batch []api.Call
	for _, s := range []int{2, 1, 0, 2, 0, 1, 2, 1, 0} {
		batch = append(batch, to(s, nil))
	}
	wantAsk(t, n, batch, came(0, 1, 5), came(8, 1, 2), came(2, 2, 1), came(3, 2, 6), came(5, 2, 3), came(7, 2, 4), silent(1, 10), silent(4, 10), silent(6, 10))
	if l := n.Transcript(); l[8].Server != 0 || l[8].Tick != 1 || l[6].Tick != 10 || l[5].Server != 1 || !bytes.Equal(l[5].Reply, []byte{3}) {
		t.Error(l)
	}
}

// TestP21_2AllGoOn: servers that nobody asks see the tick, too, and throw away what runs out.
func TestP21_2AllGoOn(t *testing.T) {
	held := api.Store{Room: 9, Kept: []api.Kept{share(x, 0, "a", 9), share(x, 1, "a", 10)}}
	n := begun(t, []api.Store{{}, held}, []api.Fate{drop(1), honest(1)})
	wantAsk(t, n, []api.Call{to(0, nil)}, silent(0, 10))
	wantStore(t, n, 1, api.Store{Room: 9, Tick: 10, Kept: []api.Kept{share(x, 1, "a", 10)}})
	wantAsk(t, n, []api.Call{to(0, nil), to(1, have(x))}, came(0, 11, 7), came(1, 11, 1, 1, 1))
	wantStore(t, n, 1, api.Store{Room: 9, Tick: 11})
}

// TestP21_2Many: a great batch to as many servers as there may be.
func TestP21_2Many(t *testing.T) {
	n := begun(t, make([]api.Store, api.MaxServers))
	var batch []api.Call
	var want []api.Answer
	for i := range 20000 {
		batch = append(batch, to(i*i%api.MaxServers, have(x)))
		want = append(want, came(i, 1, 1, 0))
	}
	wantAsk(t, n, batch, want...)
	wantAt(t, n, 1, 20000)
}
