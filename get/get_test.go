package get_test

import (
	"bytes"
	"fmt"
	"slices"
	"testing"

	"strongroom/api"
	"strongroom/get"
	"strongroom/post"
)

// wantGet holds a Get against what it must come to.
func wantGet(t *testing.T, what string, n *post.Net, c api.Read, want api.Got, wanted api.Errno) {
	t.Helper()
	g, e := get.Get(n, c)
	wantGot(t, what, g, e, want, wanted)
}

// call is a call as it stands in a transcript, without what came of it.
type call struct {
	sent    int
	server  int
	request []byte
}

// wantSent holds the calls of a transcript from a number on against what must have been sent.
func wantSent(t *testing.T, n *post.Net, from int, want ...call) {
	t.Helper()
	trace := n.Transcript()
	if len(trace) != from+len(want) {
		t.Fatalf("%d calls, want %d", len(trace), from+len(want))
	}
	for i, x := range trace[from:] {
		if w := want[i]; x.Sent != w.sent || x.Server != w.server || !bytes.Equal(x.Request, w.request) {
			t.Errorf("call %d: at %d to %d: %x, want at %d to %d: %x", from+i, x.Sent, x.Server, x.Request, w.sent, w.server, w.request)
		}
	}
}

// example gives the file of the chapter's examples: one for whose index the ring's order of three servers is 2, 0, 1.
func example(t *testing.T, size int) truth {
	t.Helper()
	for seed := range 1000 {
		w := truthOf(t, filled(size, seed), params(2, 3, 100))
		if slices.Equal(orderOf(w.index, 3), []int{2, 0, 1}) {
			return w
		}
	}
	t.Fatal("no file has that order")
	return truth{}
}

// exampleNet gives the net of the chapter's examples.
func exampleNet(t *testing.T, w truth, fates ...[]api.Fate) *post.Net {
	t.Helper()
	return begun(t, holding(w.index, w.shares, []int{1}, []int{2}, []int{0}), fates...)
}

func TestP26_1Example1(t *testing.T) {
	w := example(t, 100)
	n, h := exampleNet(t, w), have(w.index)
	wantGet(t, "all honest", n, w.cap, w.whole(7), api.OK)
	wantSent(t, n, 0, call{0, 2, h}, call{0, 0, h}, call{0, 1, h}, call{1, 2, w.frontFetch(0)}, call{1, 0, w.frontFetch(1)}, call{2, 2, w.blockFetch(0, 0)}, call{2, 0, w.blockFetch(1, 0)})
	wantUntouched(t, n, 3, 7)
}

func TestP26_1Example2(t *testing.T) {
	w := example(t, 100)
	h := have(w.index)
	n := exampleNet(t, w, []api.Fate{honest(1), lie(9)})
	wantGet(t, "a front is a lie", n, w.cap, w.whole(8), api.OK)
	wantSent(t, n, 0, call{0, 2, h}, call{0, 0, h}, call{0, 1, h}, call{1, 2, w.frontFetch(0)}, call{1, 0, w.frontFetch(1)}, call{2, 1, w.frontFetch(2)}, call{3, 2, w.blockFetch(0, 0)}, call{3, 1, w.blockFetch(2, 0)})
}

func TestP26_1Example3(t *testing.T) {
	w := example(t, 100)
	h := have(w.index)
	n := exampleNet(t, w, nil, nil, []api.Fate{honest(1), honest(1), drop()})
	wantGet(t, "a block is dropped", n, w.cap, w.whole(9), api.OK)
	wantSent(t, n, 0, call{0, 2, h}, call{0, 0, h}, call{0, 1, h}, call{1, 2, w.frontFetch(0)}, call{1, 0, w.frontFetch(1)}, call{2, 2, w.blockFetch(0, 0)}, call{2, 0, w.blockFetch(1, 0)}, call{12, 1, w.frontFetch(2)}, call{13, 1, w.blockFetch(2, 0)})
}

func TestP26_1Example4(t *testing.T) {
	w := example(t, 100)
	h := have(w.index)
	n := exampleNet(t, w, []api.Fate{drop()}, []api.Fate{drop()})
	wantGet(t, "two are silent", n, w.cap, asked(4), api.ErrFew)
	wantSent(t, n, 0, call{0, 2, h}, call{0, 0, h}, call{0, 1, h}, call{10, 2, w.frontFetch(0)})
}

func TestP26_1NoNet(t *testing.T) {
	w := example(t, 100)
	for _, n := range noNets(t) {
		wantGet(t, "no net", n, w.cap, api.Got{}, api.ErrNil)
		wantGet(t, "no net, no capability", n, api.Read{}, api.Got{}, api.ErrNil)
	}
}

func TestP26_1NoCap(t *testing.T) {
	w := example(t, 100)
	n := exampleNet(t, w)
	n.Wait(3)
	for _, c := range badCaps(w.cap) {
		wantGet(t, fmt.Sprintf("%+v", c), n, c, api.Got{}, api.ErrCap)
	}
	wantUntouched(t, n, 3, 0)
}

// TestP26_1NoServers: of nobody nothing is asked.
func TestP26_1NoServers(t *testing.T) {
	w := example(t, 100)
	n := begun(t, nil)
	wantGet(t, "no servers", n, w.cap, api.Got{}, api.ErrFew)
	wantUntouched(t, n, 0, 0)
}

// TestP26_1NobodyHas: where nobody has a share, or another index is asked for, there are no fronts to ask for.
func TestP26_1NobodyHas(t *testing.T) {
	w := example(t, 100)
	wantGet(t, "nobody has one", begun(t, make([]api.Store, 32)), w.cap, asked(32), api.ErrFew)
	other := w.cap
	other.Key[3] ^= 1
	wantGet(t, "another key", exampleNet(t, w), other, asked(3), api.ErrFew)
	other = w.cap
	other.Ueb[31] ^= 1
	wantGet(t, "another digest", exampleNet(t, w), other, asked(6), api.ErrFew)
}

// shapes are parameters and sizes at their edges and between.
func shapes() []four {
	return []four{
		{1, 1, 33, 33}, {1, 1, 1, 512}, {1, 1, 50, 60}, {1, 3, 100, 100}, {2, 3, 40, 100}, {2, 2, 100, 33}, {3, 5, 10, 100}, {3, 10, 66, 1000}, {3, 3, 300, 34},
		{255, 255, 255, 300}, {1, 255, 20, 200}, {4, 129, 40, 333}, {20, 40, 80, 1001}, {100, 255, 100, 1000}, {2, 4, 10, 45}, {7, 9, 14, 45}, {2, 3, 34, 1054},
	}
}

// spread lays numbers on servers, one server's behind the other's, round and round.
func spread(numbers, servers int) [][]int {
	l := make([][]int, servers)
	for i := range numbers {
		l[i%servers] = append(l[i%servers], i)
	}
	return l
}

// TestP26_1Whole: files of all shapes are read whole, of honest servers by as few requests as it takes.
func TestP26_1Whole(t *testing.T) {
	for i, s := range shapes() {
		w := truthOf(t, filled(s[3], i), params(s[0], s[1], s[2]))
		for _, servers := range []int{1, 2, 3, 7, 32} {
			n := begun(t, holding(w.index, w.shares, spread(s[1], servers)...))
			what := fmt.Sprint(s, servers)
			wantGet(t, what, n, w.cap, w.whole(servers+s[0]*(1+w.four.segs())), api.OK)
			wantUntouched(t, n, 2+w.four.segs(), servers+s[0]*(1+w.four.segs()))
			wantGet(t, what+" again", n, w.cap, w.whole(servers+s[0]*(1+w.four.segs())), api.OK)
		}
	}
}

// TestP26_1Greatest: a file of MaxFile bytes, and one of as many segments as may be of as many shares as may be.
func TestP26_1Greatest(t *testing.T) {
	for i, s := range []four{{2, 3, api.MaxSeg, api.MaxFile}, {255, 255, api.MaxSeg, 1 << 20}, {255, 255, 255, 512 * 255}} {
		w := truthOf(t, filled(s[3], i), params(s[0], s[1], s[2]))
		n := begun(t, holding(w.index, w.shares, spread(s[1], 2)...))
		wantGet(t, fmt.Sprint(s), n, w.cap, w.whole(2+s[0]*(1+w.four.segs())), api.OK)
	}
}

// TestP26_1SameNumber: of a number one share alone is in use, and another server's is taken when it falls out of use.
func TestP26_1SameNumber(t *testing.T) {
	w := example(t, 250) // 2 of 3, three segments; asked are 2, 0, 1
	h := have(w.index)
	haves := []call{{0, 2, h}, {0, 0, h}, {0, 1, h}}
	stores := func() []api.Store {
		return holding(w.index, w.shares, []int{0, 1}, []int{1, 2}, []int{0, 1})
	}
	n := begun(t, stores())
	wantGet(t, "two of one server", n, w.cap, w.whole(11), api.OK)
	wantSent(t, n, 0, append(slices.Clone(haves), call{1, 2, w.frontFetch(0)}, call{1, 2, w.frontFetch(1)},
		call{2, 2, w.blockFetch(0, 0)}, call{2, 2, w.blockFetch(1, 0)}, call{3, 2, w.blockFetch(0, 1)}, call{3, 2, w.blockFetch(1, 1)}, call{4, 2, w.blockFetch(0, 2)}, call{4, 2, w.blockFetch(1, 2)})...)
	// The block of number 0 in segment 1 is refused: the next one with number 0 is on 0, while 1 of 2 is in use.
	n = begun(t, stores(), nil, nil, []api.Fate{honest(1), honest(1), honest(1), honest(1), honest(1), lie(repNone)})
	wantGet(t, "one falls", n, w.cap, w.whole(13), api.OK)
	wantSent(t, n, 0, append(slices.Clone(haves), call{1, 2, w.frontFetch(0)}, call{1, 2, w.frontFetch(1)},
		call{2, 2, w.blockFetch(0, 0)}, call{2, 2, w.blockFetch(1, 0)}, call{3, 2, w.blockFetch(0, 1)}, call{3, 2, w.blockFetch(1, 1)},
		call{4, 0, w.frontFetch(0)}, call{5, 0, w.blockFetch(0, 1)}, call{6, 2, w.blockFetch(1, 2)}, call{6, 0, w.blockFetch(0, 2)})...)
	// Both fronts of 2 are lost: 0 and 1 of server 0 are taken, and 1 of server 1 never.
	n = begun(t, stores(), nil, nil, []api.Fate{honest(1), lose(), late()})
	wantGet(t, "two fall", n, w.cap, w.whole(13), api.OK)
	wantSent(t, n, 0, append(slices.Clone(haves), call{1, 2, w.frontFetch(0)}, call{1, 2, w.frontFetch(1)}, call{11, 0, w.frontFetch(0)}, call{11, 0, w.frontFetch(1)},
		call{12, 0, w.blockFetch(0, 0)}, call{12, 0, w.blockFetch(1, 0)}, call{13, 0, w.blockFetch(0, 1)}, call{13, 0, w.blockFetch(1, 1)}, call{14, 0, w.blockFetch(0, 2)}, call{14, 0, w.blockFetch(1, 2)})...)
}

// TestP26_1TooFew: one number alone, on however many servers, is not enough; nor is it when the last one that could stand in is used up.
func TestP26_1TooFew(t *testing.T) {
	w := example(t, 250)
	n := begun(t, holding(w.index, w.shares, []int{1}, []int{1}, []int{1}))
	wantGet(t, "one number", n, w.cap, asked(4), api.ErrFew)
	n = begun(t, holding(w.index, w.shares, []int{1}, []int{1}, []int{1}), nil, nil, []api.Fate{honest(1), drop()})
	wantGet(t, "one number, of another server", n, w.cap, asked(5), api.ErrFew)
	// In the last segment one falls, and nobody is left: what was read ahead is not told.
	row := slices.Repeat([]api.Fate{honest(1)}, 4)
	n = begun(t, holding(w.index, w.shares, []int{1}, nil, []int{0}), append(slices.Clone(row), drop()))
	wantGet(t, "nobody is left", n, w.cap, asked(3+2+6), api.ErrFew)
	n = begun(t, holding(w.index, w.shares, []int{1}, nil, []int{0}), append(slices.Clone(row), honest(1), drop()))
	wantGet(t, "behind the last block", n, w.cap, w.whole(11), api.OK)
}

// TestP26_1NoAnswers: no reply that brings other bytes than were asked for is taken, of whatever kind, neither for a front nor for a block.
func TestP26_1NoAnswers(t *testing.T) {
	w := example(t, 100)
	right := [][]byte{w.front(1), w.block(1, 0)}
	for place, b := range right {
		bent := bytes.Clone(b)
		bent[len(b)-1] ^= 1
		for i, reply := range [][]byte{nil, {0}, {5}, {repNone}, {repRefused}, {repStored}, {repFull}, {repOther}, numbers(1), numbers(), b, brought(b[1:]), brought(append(bytes.Clone(b), 0)), append(brought(b), 0), brought(bent), brought(right[1-place]), {8}, brought(make([]byte, api.MaxFetch)), brought(nil)} {
			fates := []api.Fate{honest(1), honest(1), honest(1)}
			fates[1+place] = lie(reply...)
			wantGet(t, fmt.Sprint("lie ", place, i), exampleNet(t, w, fates), w.cap, w.whole(8+place), api.OK)
		}
		fates := []api.Fate{honest(1), honest(1), honest(1)}
		fates[1+place] = lie(brought(b)...) // who lies so does no harm
		wantGet(t, fmt.Sprint("the right bytes ", place), exampleNet(t, w, fates), w.cap, w.whole(7), api.OK)
		for i, f := range []api.Fate{drop(), lose(), late(), {}, {Kind: 77, Delay: 1}, honest(1000)} {
			fates[1+place] = f
			wantGet(t, fmt.Sprint("no reply ", place, i), exampleNet(t, w, fates), w.cap, w.whole(8+place), api.OK)
		}
		for _, delay := range []int{-5, 0, 1, 9, 10} {
			fates[1+place] = honest(delay)
			wantGet(t, fmt.Sprint("in time ", delay), exampleNet(t, w, fates), w.cap, w.whole(7), api.OK)
		}
	}
}

// TestP26_1Haves: what a server says it has is believed as far as it is a list of numbers that may be.
func TestP26_1Haves(t *testing.T) {
	w := example(t, 100) // asked are 2, 0, 1; on 0 lies number 1, on 1 number 2, on 2 number 0
	for i, x := range []struct {
		says  []byte // of server 2
		calls int
		e     api.Errno
	}{
		{numbers(0), 7, api.OK},
		{numbers(), 7, api.OK}, // 0 and 1 are enough
		{numbers(0, 3, 254), 7, api.OK},
		{numbers(3), 7, api.OK},
		{numbers(2), 8, api.OK},       // its front is none
		{numbers(0, 1), 8, api.OK},    // the front of 1 is none; 0 has one
		{numbers(0, 1, 2), 9, api.OK}, // and its front of 2 is the next to be asked for
		{numbers(1, 2), 9, api.OK},
		{numbers(0, 0), 7, api.OK},
		{numbers(2, 1), 7, api.OK},
		{numbers(0, 255), 7, api.OK},
		{[]byte{1, 2, 0}, 7, api.OK},
		{[]byte{1, 1, 0, 1}, 7, api.OK},
		{[]byte{1}, 7, api.OK},
		{nil, 7, api.OK},
		{[]byte{repNone}, 7, api.OK},
		{[]byte{repStored}, 7, api.OK},
		{brought([]byte{1, 1, 0}), 7, api.OK},
	} {
		n := exampleNet(t, w, nil, nil, []api.Fate{lie(x.says...)})
		wantGet(t, fmt.Sprint("says ", i), n, w.cap, w.whole(x.calls), x.e)
	}
	// Without server 2 just the numbers 1 and 2 are left; without 1, too, one is too few.
	for i, f := range []api.Fate{drop(), lose(), late(), {}, lie(), lie(numbers(3)...)} {
		n := exampleNet(t, w, nil, nil, []api.Fate{f})
		wantGet(t, fmt.Sprint("without 2 ", i), n, w.cap, w.whole(7), api.OK)
		n = exampleNet(t, w, nil, []api.Fate{f}, []api.Fate{f})
		wantGet(t, fmt.Sprint("without 1 and 2 ", i), n, w.cap, asked(4), api.ErrFew)
	}
}

// TestP26_1Spoiled: a share of which a byte was turned, wherever it is, is passed over.
func TestP26_1Spoiled(t *testing.T) {
	w := example(t, 250)
	for _, at := range []int{0, 4, 11, 12, 40, 200, w.four.frontLen() - 1, w.four.place(0), w.four.place(1), w.four.place(2) - 1, len(w.shares[0]) - 1} {
		n := exampleNet(t, w)
		b := bytes.Clone(w.shares[0])
		b[at] ^= 0x10
		if e := n.Spoil(2, w.index, 0, b); e != api.OK {
			t.Fatal(e)
		}
		calls := 3 + 2 + 1 + 6
		for j := range 3 {
			if at >= w.four.place(j) && at < w.four.place(j)+w.four.blockLen(j) {
				calls++
			}
		}
		wantGet(t, fmt.Sprint("turned at ", at), n, w.cap, w.whole(calls), api.OK)
	}
}

// TestP26_1Leases: a share that is thrown away while it is read is passed over from then on.
func TestP26_1Leases(t *testing.T) {
	w := example(t, 250)
	for until := range 16 {
		stores := holding(w.index, w.shares, []int{1}, []int{2}, []int{0})
		stores[2].Kept[0].Leases[0].Until = until
		n := begun(t, stores, nil, nil, slices.Repeat([]api.Fate{honest(3)}, 9)) // fronts are asked for at 3, blocks at 6, 9 and 12
		calls := 3 + 2 + 6
		switch {
		case until < 3:
			calls++ // the front of the one in its place
		case until < 12:
			calls += 2 // and the block that it lacks
		}
		wantGet(t, fmt.Sprint("until ", until), n, w.cap, w.whole(calls), api.OK)
	}
}

// TestP26_1Reads: nothing on the servers changes by a read, and no capability but its own is read.
func TestP26_1Reads(t *testing.T) {
	a, b := truthOf(t, filled(120, 1), params(2, 4, 40)), truthOf(t, filled(333, 2), params(1, 2, 50))
	stores := holding(a.index, a.shares, []int{0, 1}, []int{2, 3})
	for i := range stores {
		stores[i].Kept = append(stores[i].Kept, kept(b.index, i, b.shares[i]))
		slices.SortStableFunc(stores[i].Kept, func(x, y api.Kept) int { return bytes.Compare(x.Index[:], y.Index[:]) })
	}
	n := begun(t, stores)
	wantGet(t, "one", n, a.cap, a.whole(2+2*4), api.OK)
	wantGet(t, "the other", n, b.cap, b.whole(2+1*8), api.OK)
	for i, want := range stores {
		got, _ := n.Store(i)
		if len(got.Kept) != len(want.Kept) || got.Room != want.Room {
			t.Fatalf("server %d: %v", i, got)
		}
		for j, k := range got.Kept {
			if w := want.Kept[j]; k.Index != w.Index || k.Number != w.Number || !bytes.Equal(k.Bytes, w.Bytes) || !slices.Equal(k.Leases, w.Leases) {
				t.Errorf("server %d, share %d was changed", i, j)
			}
		}
	}
}
