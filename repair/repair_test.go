package repair_test

import (
	"bytes"
	"fmt"
	"slices"
	"testing"

	"strongroom/api"
	"strongroom/post"
	"strongroom/repair"
)

// call is a call as it stands in a transcript, without what came of it.
type call struct {
	sent    int
	server  int
	request []byte
}

// wantSent holds the calls of a transcript from a number on against what must have been sent.
func wantSent(t *testing.T, n *post.Net, from int, want ...call) {
	t.Helper()
	trace := n.Transcript()
	if len(trace) != from+len(want) {
		t.Fatalf("%d calls, want %d", len(trace), from+len(want))
	}
	for i, x := range trace[from:] {
		if w := want[i]; x.Sent != w.sent || x.Server != w.server || !bytes.Equal(x.Request, w.request) {
			t.Errorf("call %d: at %d to %d: %.60x, want at %d to %d: %.60x", from+i, x.Sent, x.Server, x.Request, w.sent, w.server, w.request)
		}
	}
}

func (w truth) storing(number int, l api.Lease) []byte {
	return storing(w.v.Index, number, l, w.shares[number])
}

// example gives the file of the chapter's examples, of one segment: one for whose index a server is the first of the two in the ring's order.
func example(t *testing.T, first int) truth {
	t.Helper()
	for seed := range 1000 {
		w := truthOf(t, four{1, 2, 60, 60}, seed)
		if orderOf(w.v.Index, 2)[0] == first {
			return w
		}
	}
	t.Fatal("no file has that order")
	return truth{}
}

// examples does something with the file of the examples, in both orders of its servers.
func examples(t *testing.T, do func(w truth, order []int)) {
	t.Helper()
	for first := range 2 {
		w := example(t, first)
		do(w, orderOf(w.v.Index, 2))
	}
}

// exampleStores gives the servers of the examples: the first one has share 0.
func exampleStores(w truth) []api.Store { return holding(w.v.Index, w.shares, []int{0}, nil) }

func TestP28_2Example2(t *testing.T) {
	l := lease(7, 500)
	examples(t, func(w truth, o []int) {
		n := begun(t, exampleStores(w))
		wantRepair(t, "share 1 lacks", n, w.v, l, api.Repaired{Good: []api.Pair{on(0, 0)}, Stored: []api.Pair{on(o[1], 1)}}, api.OK)
		wantSent(t, n, 0, call{0, o[0], have(w.v.Index)}, call{0, o[1], have(w.v.Index)},
			call{1, 0, w.frontFetch(0)}, call{2, 0, w.blockFetch(0, 0)}, call{3, o[1], w.storing(1, l)})
		wantUntouched(t, n, 4, 5)
		both := w.in(2, on(0, 0), on(o[1], 1))
		wantRepair(t, "once more", n, w.v, l, api.Repaired{Good: both}, api.OK)
		wantUntouched(t, n, 7, 5+2+2+2)
	})
}

func TestP28_2Example3(t *testing.T) {
	l := lease(7, 500)
	examples(t, func(w truth, o []int) {
		stores := exampleStores(w)
		room := 0
		if o[1] == 0 { // it has room for what it has
			room = len(w.shares[0])
		}
		stores[o[1]].Room = room
		n := begun(t, stores)
		wantRepair(t, "the first one has no room", n, w.v, l, api.Repaired{Good: []api.Pair{on(0, 0)}, Stored: []api.Pair{on(o[0], 1)}}, api.OK)
		wantSent(t, n, 4, call{3, o[1], w.storing(1, l)}, call{4, o[0], w.storing(1, l)})
		wantUntouched(t, n, 5, 6)
		stores[0].Room, stores[1].Room = len(w.shares[0]), 0
		n = begun(t, stores)
		wantRepair(t, "nobody has room", n, w.v, l, api.Repaired{Good: []api.Pair{on(0, 0)}, Lacks: []int{1}}, api.ErrLacks)
		wantSent(t, n, 4, call{3, o[1], w.storing(1, l)}, call{4, o[0], w.storing(1, l)})
	})
}

func TestP28_2Example4(t *testing.T) {
	examples(t, func(w truth, o []int) {
		n := begun(t, make([]api.Store, 2))
		wantRepair(t, "nothing lies anywhere", n, w.v, lease(7, 500), api.Repaired{}, api.ErrFew)
		wantUntouched(t, n, 1, 2)
		n = begun(t, exampleStores(w))
		wantRepair(t, "no lease", n, w.v, lease(1, -1), api.Repaired{}, api.ErrArg)
		v := w.v
		v.K, v.N, v.Seg = 3, 5, 64
		wantRepair(t, "no capability", n, v, lease(1, 5), api.Repaired{}, api.ErrCap)
		wantUntouched(t, n, 0, 0)
	})
}

// TestP28_2NoNet: what is no net is told ahead of all else.
func TestP28_2NoNet(t *testing.T) {
	w := example(t, 0)
	for _, n := range noNets(t) {
		wantRepair(t, "no net", n, w.v, lease(1, 5), api.Repaired{}, api.ErrNil)
		wantRepair(t, "no net, no capability", n, api.Verify{}, lease(1, 5), api.Repaired{}, api.ErrNil)
		wantRepair(t, "no net, no lease", n, w.v, lease(1, -1), api.Repaired{}, api.ErrNil)
	}
}

// badLeases are such as no share may have.
func badLeases() []api.Lease {
	var l []api.Lease
	for _, until := range append(odd(), api.MaxTick+1, 2*api.MaxTick) {
		if until < 0 || until > api.MaxTick {
			l = append(l, lease(3, until))
		}
	}
	return l
}

// TestP28_2NoCap: a capability that may not be is told ahead of a lease that may not be; nobody is asked.
func TestP28_2NoCap(t *testing.T) {
	w := example(t, 0)
	n := begun(t, exampleStores(w))
	n.Wait(3)
	empty := begun(t, nil)
	for _, v := range badCaps(w.v) {
		wantRepair(t, fmt.Sprintf("%+v", v), n, v, lease(1, 5), api.Repaired{}, api.ErrCap)
		wantRepair(t, fmt.Sprintf("no lease, %+v", v), n, v, lease(1, -5), api.Repaired{}, api.ErrCap)
		wantRepair(t, fmt.Sprintf("no servers, %+v", v), empty, v, lease(1, 5), api.Repaired{}, api.ErrCap)
	}
	wantUntouched(t, n, 3, 0)
	wantUntouched(t, empty, 0, 0)
}

// TestP28_2NoLease: nobody is asked, also where nothing would be stored.
func TestP28_2NoLease(t *testing.T) {
	w := example(t, 0)
	whole := begun(t, holding(w.v.Index, w.shares, []int{0, 1}, nil))
	for i, n := range []*post.Net{begun(t, exampleStores(w)), whole, begun(t, make([]api.Store, 2)), begun(t, nil)} {
		for _, l := range badLeases() {
			wantRepair(t, fmt.Sprintf("%d, %v", i, l), n, w.v, l, api.Repaired{}, api.ErrArg)
		}
		wantUntouched(t, n, 0, 0)
	}
}

// TestP28_2LeaseEdges: the least and the greatest lease that may be; it is handed on as it is.
func TestP28_2LeaseEdges(t *testing.T) {
	examples(t, func(w truth, o []int) {
		for _, l := range []api.Lease{lease(0, api.MaxTick), lease(1<<32-1, api.MaxTick-1), lease(1<<31, 1<<33), lease(7, 4)} {
			n := begun(t, exampleStores(w))
			wantRepair(t, fmt.Sprint(l), n, w.v, l, api.Repaired{Good: []api.Pair{on(0, 0)}, Stored: []api.Pair{on(o[1], 1)}}, api.OK)
			s, _ := n.Store(o[1])
			i := slices.IndexFunc(s.Kept, func(k api.Kept) bool { return k.Number == 1 })
			if i < 0 || !slices.Equal(s.Kept[i].Leases, []api.Lease{l}) || !bytes.Equal(s.Kept[i].Bytes, w.shares[1]) {
				t.Errorf("%v: another share, or another lease: %d", l, i)
			}
		}
		n := begun(t, exampleStores(w))
		wantRepair(t, "up to the tick of the store", n, w.v, lease(7, 3), api.Repaired{Good: []api.Pair{on(0, 0)}, Stored: []api.Pair{on(o[1], 1)}}, api.OK)
		for _, l := range []api.Lease{lease(7, 0), lease(7, 2)} { // over by then, so that the servers refuse the share
			n := begun(t, exampleStores(w))
			wantRepair(t, fmt.Sprint(l), n, w.v, l, api.Repaired{Good: []api.Pair{on(0, 0)}, Lacks: []int{1}}, api.ErrLacks)
			wantUntouched(t, n, 5, 6)
		}
	})
}

// TestP28_2NoServers: where there is nobody, too few are good.
func TestP28_2NoServers(t *testing.T) {
	w := example(t, 0)
	n := begun(t, nil)
	n.Wait(7)
	wantRepair(t, "no servers", n, w.v, lease(1, 50), api.Repaired{}, api.ErrFew)
	wantUntouched(t, n, 7, 0)
}

// TestP28_2Few: K - 1 numbers are too few, however many pairs they have; what is good is told, and nothing stored.
func TestP28_2Few(t *testing.T) {
	w := truthOf(t, four{3, 5, 12, 100}, 1)
	for _, servers := range [][][]int{{{0}}, {{4}, {4}, {4}, {4}}, {{0, 1}, {0, 1}, {0, 1}}, {nil, {2}, {4}}, {{3, 4}, nil, {3}}} {
		stores := holding(w.v.Index, w.shares, servers...)
		n := begun(t, stores)
		var good []api.Pair
		for s, numbers := range servers {
			for _, number := range numbers {
				good = append(good, on(s, number))
			}
		}
		good = w.in(len(servers), good...)
		wantRepair(t, fmt.Sprint(servers), n, w.v, lease(1, 900), api.Repaired{Good: good}, api.ErrFew)
		wantUntouched(t, n, 1+1+9, len(servers)+10*len(good))
		wantFollowed(t, fmt.Sprint(servers), w, len(servers), lease(1, 900), n.Transcript(), api.Repaired{Good: good}, api.ErrFew)
	}
}

// TestP28_2FewBad: bad pairs count for nothing.
func TestP28_2FewBad(t *testing.T) {
	w := truthOf(t, four{2, 3, 40, 100}, 2)
	n := begun(t, holding(w.v.Index, w.shares, []int{0, 1, 2}))
	for _, number := range []int{0, 2} {
		b := bytes.Clone(w.shares[number])
		b[len(b)-1] ^= 1
		n.Spoil(0, w.v.Index, number, b)
	}
	wantRepair(t, "one is good", n, w.v, lease(1, 900), api.Repaired{Good: []api.Pair{on(0, 1)}}, api.ErrFew)
	wantUntouched(t, n, 5, 1+3+3*3)
}

// TestP28_2Just: of any K numbers all others are made.
func TestP28_2Just(t *testing.T) {
	for i, s := range []four{{1, 1, 40, 90}, {1, 3, 40, 90}, {2, 4, 40, 90}, {3, 5, 12, 100}, {4, 4, 40, 90}, {2, 2, 100, 33}} {
		w := truthOf(t, s, i)
		for set := range 1 << s[1] {
			var has, lacks []int
			for number := range s[1] {
				if set>>number&1 == 1 {
					has = append(has, number)
				} else {
					lacks = append(lacks, number)
				}
			}
			n := begun(t, holding(w.v.Index, w.shares, has, nil, nil))
			l := lease(2, 9000)
			r, e := repair.Repair(n, w.v, l)
			wantFollowed(t, fmt.Sprint(s, has), w, 3, l, n.Transcript(), r, e)
			if len(has) >= s[0] && (e != api.OK || len(r.Stored) != len(lacks) || len(r.Good) != len(has)) || len(has) < s[0] && e != api.ErrFew {
				t.Errorf("%v, %v: %+v, %d", s, has, r, e)
			}
		}
	}
}

// TestP28_2Shapes: files of all kinds; the last K numbers alone are there.
func TestP28_2Shapes(t *testing.T) {
	for i, s := range append(shapes(), four{1, 2, 1, 512}, four{2, 255, 512, 4000}, four{254, 255, 254, 1000}, four{1, 2, 65536, 140000}, four{4, 5, 65536, 140000}) {
		w := truthOf(t, s, i)
		n := begun(t, holding(w.v.Index, w.shares, upTo(s[1])[s[1]-s[0]:], nil, nil, nil))
		l := lease(2, 9000)
		r, e := repair.Repair(n, w.v, l)
		wantFollowed(t, fmt.Sprint(s), w, 4, l, n.Transcript(), r, e)
		if e != api.OK || len(r.Stored) != s[1]-s[0] || len(r.Good) != s[0] {
			t.Errorf("%v: %d good, %d stored, %d", s, len(r.Good), len(r.Stored), e)
		}
		if found := wantAll(t, fmt.Sprint(s), n, w.v); found != s[1] {
			t.Errorf("%v: %d behind it", s, found)
		}
	}
}

// TestP28_2Twice: a number that lies twice is one of the first K once.
func TestP28_2Twice(t *testing.T) {
	w := truthOf(t, four{2, 4, 40, 100}, 5)
	for _, servers := range [][][]int{{{3}, {3}, {0, 3}}, {{1, 2}, {1, 2}, {1}}, {{2}, {2}, {2}, {2, 3}}} {
		n := begun(t, holding(w.v.Index, w.shares, servers...))
		l := lease(9, 800)
		r, e := repair.Repair(n, w.v, l)
		wantFollowed(t, fmt.Sprint(servers), w, len(servers), l, n.Transcript(), r, e)
		if e != api.OK || len(r.Stored) != 2 {
			t.Errorf("%v: %+v, %d", servers, r, e)
		}
		wantAll(t, fmt.Sprint(servers), n, w.v)
	}
}

// TestP28_2All: where all numbers are good nothing is stored, however they lie, be there bad ones besides or no room.
func TestP28_2All(t *testing.T) {
	w := truthOf(t, four{2, 3, 40, 100}, 6)
	stores := holding(w.v.Index, w.shares, []int{0}, []int{1, 2}, []int{0, 1, 2})
	for i := range stores {
		stores[i].Room = len(w.shares[0]) * len(stores[i].Kept)
	}
	n := begun(t, stores)
	b := bytes.Clone(w.shares[2])
	b[100] ^= 1
	n.Spoil(2, w.v.Index, 2, b)
	good := w.in(3, on(0, 0), on(1, 1), on(1, 2), on(2, 0), on(2, 1))
	wantRepair(t, "all are there", n, w.v, lease(1, 0), api.Repaired{Good: good}, api.OK)
	wantUntouched(t, n, 5, 3+6+5*3)
}

// TestP28_2Bad: who has something bad under a number is not asked to store it, but others are.
func TestP28_2Bad(t *testing.T) {
	w := truthOf(t, four{2, 3, 40, 100}, 7)
	o := orderOf(w.v.Index, 3)
	stores := holding(w.v.Index, w.shares, []int{0, 1, 2}, []int{0, 1, 2}, []int{0, 1, 2})
	n := begun(t, stores)
	spoil := func(server int) {
		b := bytes.Clone(w.shares[2])
		b[len(b)-3] ^= 1
		n.Spoil(server, w.v.Index, 2, b)
	}
	for s := range 3 {
		spoil(s)
	}
	good := w.in(3, on(0, 0), on(0, 1), on(1, 0), on(1, 1), on(2, 0), on(2, 1))
	wantRepair(t, "all have something else", n, w.v, lease(1, 900), api.Repaired{Good: good, Lacks: []int{2}}, api.ErrLacks)
	wantUntouched(t, n, 5, 3+9+9*3)
	stores[o[1]].Kept = stores[o[1]].Kept[:2]
	n = begun(t, stores)
	spoil(o[0])
	spoil(o[2])
	wantRepair(t, "all but one", n, w.v, lease(1, 900), api.Repaired{Good: good, Stored: []api.Pair{on(o[1], 2)}}, api.OK)
	wantSent(t, n, 3+8+8*3, call{5, o[1], w.storing(2, lease(1, 900))})
}

// TestP28_2Stores: a store counts if the reply to it is RepStored and nothing else; else the next server is asked.
func TestP28_2Stores(t *testing.T) {
	l := lease(4, 700)
	examples(t, func(w truth, o []int) {
		ahead := 1
		if o[1] == 0 { // the server that is asked first has been asked for what it has
			ahead = 3
		}
		fates := []api.Fate{drop(), lose(), late(), {}}
		for _, b := range [][]byte{nil, {repFull}, {repOther}, {repNone}, {repRefused}, {0}, {repStored, 0}, numbers(1), brought([]byte{2}), {9}} {
			fates = append(fates, lie(b...))
		}
		for i, f := range fates {
			rows := make([][]api.Fate, 2)
			rows[o[1]] = behind(ahead, f)
			n := begun(t, exampleStores(w), rows...)
			wantRepair(t, fmt.Sprint("the store fails in the way ", i), n, w.v, l, api.Repaired{Good: []api.Pair{on(0, 0)}, Stored: []api.Pair{on(o[0], 1)}}, api.OK)
			tick := 4
			if i < 4 {
				tick = 3 + api.Patience
			}
			wantSent(t, n, 4, call{3, o[1], w.storing(1, l)}, call{tick, o[0], w.storing(1, l)})
		}
		rows := make([][]api.Fate, 2)
		rows[o[1]] = behind(ahead, lie(repStored))
		n := begun(t, exampleStores(w), rows...)
		wantRepair(t, "a server says that it has it", n, w.v, l, api.Repaired{Good: []api.Pair{on(0, 0)}, Stored: []api.Pair{on(o[1], 1)}}, api.OK)
	})
}

// TestP28_2Lacks: what nobody takes is told rising, and what is stored beside it.
func TestP28_2Lacks(t *testing.T) {
	w := truthOf(t, four{1, 6, 40, 100}, 8)
	size := len(w.shares[0])
	for rooms := range 6 {
		stores := holding(w.v.Index, w.shares, []int{3}, nil)
		stores[0].Room, stores[1].Room = size*(1+rooms/2), size*(rooms-rooms/2)
		n := begun(t, stores)
		l := lease(1, 900)
		r, e := repair.Repair(n, w.v, l)
		wantFollowed(t, fmt.Sprint(rooms), w, 2, l, n.Transcript(), r, e)
		if len(r.Stored) != rooms || len(r.Lacks) != 5-rooms || (e == api.ErrLacks) != (rooms < 5) || !slices.IsSorted(r.Lacks) {
			t.Errorf("room for %d: %+v, %d", rooms, r, e)
		}
	}
}

// TestP28_2Most: all servers that may be, and all numbers; one server has one share.
func TestP28_2Most(t *testing.T) {
	for _, has := range []int{1, 254} {
		w := truthOf(t, four{1, 255, 40, 40}, 9)
		servers := slices.Repeat([][]int{nil}, 32)
		servers[17] = upTo(255)[255-has:]
		n := begun(t, holding(w.v.Index, w.shares, servers...))
		l := lease(1, 900)
		r, e := repair.Repair(n, w.v, l)
		wantFollowed(t, fmt.Sprint(has), w, 32, l, n.Transcript(), r, e)
		if e != api.OK || len(r.Good) != has || len(r.Stored) != 255-has || n.Made() != 32+2*has+255-has {
			t.Errorf("%d good, %d stored, %d, %d calls", len(r.Good), len(r.Stored), e, n.Made())
		}
	}
}

// TestP28_2LastTick: where no ticks are left, all goes on as ever.
func TestP28_2LastTick(t *testing.T) {
	examples(t, func(w truth, o []int) {
		n := begun(t, exampleStores(w))
		n.Wait(api.MaxTick)
		wantRepair(t, "at the last tick", n, w.v, lease(1, api.MaxTick), api.Repaired{Good: []api.Pair{on(0, 0)}, Stored: []api.Pair{on(o[1], 1)}}, api.OK)
		wantUntouched(t, n, api.MaxTick, 5)
	})
}

// TestP28_2OtherIndex: the index is where shares lie, and nothing else: what the Ueb binds is brought back under any.
func TestP28_2OtherIndex(t *testing.T) {
	w := truthOf(t, four{2, 4, 40, 100}, 10)
	w.v.Index = api.Index{1, 2, 3}
	n := begun(t, holding(w.v.Index, w.shares, []int{1}, []int{3}))
	l := lease(1, 900)
	r, e := repair.Repair(n, w.v, l)
	wantFollowed(t, "another index", w, 2, l, n.Transcript(), r, e)
	if e != api.OK || len(r.Stored) != 2 {
		t.Errorf("%+v, %d", r, e)
	}
	wantAll(t, "another index", n, w.v)
}

// wantWrong: shares of what is no file's are good, but nothing is made of them.
func wantWrong(t *testing.T, what string, w truth, has []int) {
	t.Helper()
	n := begun(t, holding(w.v.Index, w.shares, has, nil, has[:1]))
	l := lease(1, 900)
	r, e := repair.Repair(n, w.v, l)
	wantFollowed(t, what, w, 3, l, n.Transcript(), r, e)
	if e != api.ErrWrong || len(r.Good) != len(has)+1 {
		t.Errorf("%s: %+v, %d", what, r, e)
	}
}

// TestP28_2Wrong: good shares of what is no file's: nothing is stored, but what was good is told.
func TestP28_2Wrong(t *testing.T) {
	count := 0
	for i, s := range []four{{1, 2, 40, 100}, {2, 3, 40, 99}, {2, 5, 40, 100}, {3, 5, 12, 100}, {3, 4, 66, 1000}, {4, 5, 100, 33}, {1, 3, 50, 50}} {
		for seed := range 6 {
			for way, w := range append(crooked(t, s, 10*i+seed), noFile(s, i)) {
				wantWrong(t, fmt.Sprintf("%v, seed %d, way %d", s, seed, way), w, upTo(s[1])[:s[0]])
				wantWrong(t, fmt.Sprintf("%v, seed %d, way %d, the last", s, seed, way), w, upTo(s[1])[1:])
				count++
			}
		}
	}
	if count < 150 {
		t.Errorf("%d alone", count)
	}
}

// TestP28_2WrongAll: where all numbers are good, or too few, nobody looks whether they are a file's.
func TestP28_2WrongAll(t *testing.T) {
	s := four{2, 3, 40, 99}
	for way, w := range append(crooked(t, s, 4), noFile(s, 4)) {
		n := begun(t, holding(w.v.Index, w.shares, []int{0, 1, 2}))
		wantRepair(t, fmt.Sprint("all, way ", way), n, w.v, lease(1, 900), api.Repaired{Good: []api.Pair{on(0, 0), on(0, 1), on(0, 2)}}, api.OK)
		n = begun(t, holding(w.v.Index, w.shares, []int{1}))
		wantRepair(t, fmt.Sprint("one, way ", way), n, w.v, lease(1, 900), api.Repaired{Good: []api.Pair{on(0, 1)}}, api.ErrFew)
	}
}
