package check_test

import (
	"bytes"
	"fmt"
	"slices"
	"testing"

	"strongroom/api"
	"strongroom/check"
	"strongroom/post"
)

// call is a call as it stands in a transcript, without what came of it.
type call struct {
	sent    int
	server  int
	request []byte
}

// wantSent holds the calls of a transcript against what must have been sent.
func wantSent(t *testing.T, n *post.Net, want ...call) {
	t.Helper()
	trace := n.Transcript()
	if len(trace) != len(want) {
		t.Fatalf("%d calls, want %d", len(trace), len(want))
	}
	for i, x := range trace {
		if w := want[i]; x.Sent != w.sent || x.Server != w.server || !bytes.Equal(x.Request, w.request) {
			t.Errorf("call %d: at %d to %d: %x, want at %d to %d: %x", i, x.Sent, x.Server, x.Request, w.sent, w.server, w.request)
		}
	}
}

// example gives the file of the chapter's examples: one for whose index a server is the first of the two in the ring's order.
func example(t *testing.T, first int) truth {
	t.Helper()
	for seed := range 1000 {
		w := truthOf(t, four{1, 2, 50, 60}, seed)
		if orderOf(w.v.Index, 2)[0] == first {
			return w
		}
	}
	t.Fatal("no file has that order")
	return truth{}
}

// exampleNet gives the net of the chapter's examples.
func exampleNet(t *testing.T, w truth, fates ...[]api.Fate) *post.Net {
	t.Helper()
	return begun(t, holding(w.v.Index, w.shares, []int{0, 1}, []int{1}), fates...)
}

// examples does something with the file of the examples, in both orders of its servers.
func examples(t *testing.T, do func(w truth)) {
	t.Helper()
	for first := range 2 {
		do(example(t, first))
	}
}

func TestP27_2Example1(t *testing.T) {
	w := example(t, 0)
	n, h := exampleNet(t, w), have(w.v.Index)
	want := api.Checked{Good: []api.Pair{on(0, 0), on(0, 1), on(1, 1)}, Spread: api.Spread{Servers: 2, Numbers: 2, Happy: 2}, Enough: true, All: true}
	wantCheck(t, "server 0 first", n, w.v, want)
	wantSent(t, n, call{0, 0, h}, call{0, 1, h},
		call{1, 0, w.frontFetch(0)}, call{1, 0, w.frontFetch(1)}, call{1, 1, w.frontFetch(1)},
		call{2, 0, w.blockFetch(0, 0)}, call{2, 0, w.blockFetch(1, 0)}, call{2, 1, w.blockFetch(1, 0)},
		call{3, 0, w.blockFetch(0, 1)}, call{3, 0, w.blockFetch(1, 1)}, call{3, 1, w.blockFetch(1, 1)})
	wantUntouched(t, n, 4, 11)

	w = example(t, 1)
	n, h = exampleNet(t, w), have(w.v.Index)
	want.Good = []api.Pair{on(1, 1), on(0, 0), on(0, 1)}
	wantCheck(t, "server 1 first", n, w.v, want)
	wantSent(t, n, call{0, 1, h}, call{0, 0, h},
		call{1, 1, w.frontFetch(1)}, call{1, 0, w.frontFetch(0)}, call{1, 0, w.frontFetch(1)},
		call{2, 1, w.blockFetch(1, 0)}, call{2, 0, w.blockFetch(0, 0)}, call{2, 0, w.blockFetch(1, 0)},
		call{3, 1, w.blockFetch(1, 1)}, call{3, 0, w.blockFetch(0, 1)}, call{3, 0, w.blockFetch(1, 1)})
}

func TestP27_2Example2(t *testing.T) {
	examples(t, func(w truth) {
		n := exampleNet(t, w)
		b := bytes.Clone(w.shares[1])
		b[len(b)-1] ^= 4
		n.Spoil(1, w.v.Index, 1, b)
		want := api.Checked{Good: []api.Pair{on(0, 0), on(0, 1)}, Bad: []api.Pair{on(1, 1)}, Spread: api.Spread{Servers: 1, Numbers: 2, Happy: 1}, Enough: true, All: true}
		wantCheck(t, "a byte was turned", n, w.v, want)
		wantUntouched(t, n, 4, 11)
	})
}

func TestP27_2Example3(t *testing.T) {
	examples(t, func(w truth) {
		n := exampleNet(t, w, []api.Fate{drop()})
		want := api.Checked{Good: []api.Pair{on(1, 1)}, Silent: []int{0}, Spread: api.Spread{Servers: 1, Numbers: 1, Happy: 1}, Enough: true}
		wantCheck(t, "server 0 is silent", n, w.v, want)
		wantUntouched(t, n, 13, 5)
		n = exampleNet(t, w, []api.Fate{drop()}, []api.Fate{drop()})
		wantCheck(t, "both are silent", n, w.v, api.Checked{Silent: []int{0, 1}})
		wantUntouched(t, n, 10, 2)
	})
}

func TestP27_2Example4(t *testing.T) {
	examples(t, func(w truth) {
		n := exampleNet(t, w, nil, []api.Fate{lie(numbers(0, 7)...)})
		want := api.Checked{Good: []api.Pair{on(0, 0), on(0, 1)}, Bad: []api.Pair{on(1, 0)}, Spread: api.Spread{Servers: 1, Numbers: 2, Happy: 1}, Enough: true, All: true}
		wantCheck(t, "server 1 lies", n, w.v, want)
		wantUntouched(t, n, 4, 2+3+2+2)
	})
}

func TestP27_2NoNet(t *testing.T) {
	w := example(t, 0)
	for _, n := range noNets(t) {
		wantRefused(t, "no net", n, w.v, api.ErrNil)
		wantRefused(t, "no net, no capability", n, api.Verify{}, api.ErrNil)
	}
}

func TestP27_2NoCap(t *testing.T) {
	w := example(t, 0)
	n := exampleNet(t, w)
	n.Wait(3)
	empty := begun(t, nil)
	for _, v := range badCaps(w.v) {
		wantRefused(t, fmt.Sprintf("%+v", v), n, v, api.ErrCap)
		wantRefused(t, fmt.Sprintf("no servers, %+v", v), empty, v, api.ErrCap)
	}
	wantUntouched(t, n, 3, 0)
	wantUntouched(t, empty, 0, 0)
}

// TestP27_2NoServers: of nobody nothing is asked, and nobody is silent.
func TestP27_2NoServers(t *testing.T) {
	w := example(t, 0)
	n := begun(t, nil)
	n.Wait(7)
	wantCheck(t, "no servers", n, w.v, api.Checked{})
	wantUntouched(t, n, 7, 0)
}

// TestP27_2NobodyHas: who tells that it has nothing is not silent, and is asked no more.
func TestP27_2NobodyHas(t *testing.T) {
	w := example(t, 0)
	n := begun(t, make([]api.Store, 32))
	wantCheck(t, "nobody has one", n, w.v, api.Checked{})
	wantUntouched(t, n, 1, 32)
	other := w.v
	other.Index[15] ^= 1
	n = exampleNet(t, w)
	wantCheck(t, "another index", n, other, api.Checked{})
	wantUntouched(t, n, 1, 2)
	beyond := numbers(2, 3, 254)
	n = exampleNet(t, w, []api.Fate{lie(beyond...)}, []api.Fate{lie(numbers()...)})
	wantCheck(t, "numbers from N on", n, w.v, api.Checked{})
	wantUntouched(t, n, 1, 2)
}

// TestP27_2Silent: who replies nothing in time, or anything but numbers in their one form, is silent; they are told rising, in whatever order they are asked.
func TestP27_2Silent(t *testing.T) {
	w := truthOf(t, four{1, 1, 40, 100}, 1)
	mute := []api.Fate{drop(), lose(), late(), {}, {Kind: 9, Delay: 1}, {Kind: api.FateLie, Delay: 11, Bytes: numbers(0)}}
	for _, b := range [][]byte{nil, {repStored}, {repFull}, {repOther}, {repNone}, {repRefused}, {0}, {1}, {1, 1}, {1, 0, 0}, {1, 1, 0, 0}, {1, 2, 0}, {1, 2, 0, 0}, {1, 2, 1, 0}, {1, 1, 255}, {8}, brought([]byte{1, 1, 0}), brought(w.front(0))} {
		mute = append(mute, lie(b...))
	}
	rows := make([][]api.Fate, 0, len(mute)+2)
	for _, f := range mute {
		rows = append(rows, []api.Fate{f})
	}
	stores := holding(w.v.Index, w.shares, slices.Repeat([][]int{{0}}, len(mute)+2)...)
	last := len(mute)
	n := begun(t, stores, append(rows, nil, []api.Fate{honest(10)})...)
	good := w.in(last+2, on(last, 0), on(last+1, 0))
	wantCheck(t, "all but two are silent", n, w.v, found(w.v, good, nil, upTo(last)...))
	wantUntouched(t, n, 10+4, last+2+2*4)
	for i, f := range mute {
		n := begun(t, stores[:3], nil, []api.Fate{f})
		wantCheck(t, fmt.Sprint("silent in the way ", i), n, w.v, found(w.v, w.in(3, on(0, 0), on(2, 0)), nil, 1))
	}
}

// TestP27_2SilentRising: whichever servers are silent, they are told rising.
func TestP27_2SilentRising(t *testing.T) {
	for seed := range 20 {
		w := truthOf(t, four{1, 2, 50, 60}, seed)
		if slices.IsSorted(orderOf(w.v.Index, 5)) {
			continue
		}
		rows := slices.Repeat([][]api.Fate{{drop()}}, 5)
		wantCheck(t, "all", begun(t, make([]api.Store, 5), rows...), w.v, api.Checked{Silent: []int{0, 1, 2, 3, 4}})
		rows[2] = nil
		wantCheck(t, "all but one", begun(t, make([]api.Store, 5), rows...), w.v, api.Checked{Silent: []int{0, 1, 3, 4}})
	}
}

// spoiltReplies are replies to a fetch of these bytes that bring something else.
func spoiltReplies(b []byte) [][]byte {
	turned := bytes.Clone(b)
	turned[len(b)/2] ^= 1
	return [][]byte{nil, {repNone}, {repRefused}, {repStored}, {repFull}, {repOther}, numbers(0), {5}, {9}, b, brought(b[:len(b)-1]), brought(append(bytes.Clone(b), 0)), append(brought(b), 0), brought(b)[:len(b)+4], brought(turned), brought(make([]byte, len(b)))}
}

// TestP27_2Front: a front that does not come, or that is none, makes a share bad, which is asked for nothing more; the others go on.
func TestP27_2Front(t *testing.T) {
	w := truthOf(t, four{2, 3, 40, 100}, 4) // three segments
	stores := holding(w.v.Index, w.shares, []int{0, 1, 2}, []int{0, 2})
	fates := []api.Fate{drop(), lose(), late(), {}}
	for _, b := range append(spoiltReplies(w.front(1)), brought(w.front(0)), brought(w.front(2)), brought(w.block(1, 0))) {
		fates = append(fates, lie(b...))
	}
	for i, f := range fates {
		n := begun(t, stores, behind(2, f)) // the second front of server 0 is that of number 1
		want := found(w.v, w.in(2, on(0, 0), on(0, 2), on(1, 0), on(1, 2)), []api.Pair{on(0, 1)})
		wantCheck(t, fmt.Sprint("a front in the way ", i), n, w.v, want)
		if n.Made() != 2+5+3*4 {
			t.Errorf("a front in the way %d: %d calls", i, n.Made())
		}
	}
}

// TestP27_2Block: likewise a block, of whichever segment.
func TestP27_2Block(t *testing.T) {
	w := truthOf(t, four{2, 3, 40, 100}, 4)
	stores := holding(w.v.Index, w.shares, []int{0, 1, 2}, []int{0, 2})
	for j := range 3 {
		fates := []api.Fate{drop(), lose(), late(), {}}
		for _, b := range append(spoiltReplies(w.block(1, j)), brought(w.block(0, j)), brought(w.block(2, j)), brought(w.block(1, (j+1)%3))) {
			fates = append(fates, lie(b...))
		}
		for i, f := range fates {
			n := begun(t, stores, behind(1+3*(1+j)+1, f)) // of each batch the second call to server 0 is that of number 1
			want := found(w.v, w.in(2, on(0, 0), on(0, 2), on(1, 0), on(1, 2)), []api.Pair{on(0, 1)})
			wantCheck(t, fmt.Sprintf("block %d in the way %d", j, i), n, w.v, want)
			if n.Made() != 2+5+5*(1+j)+4*(2-j) {
				t.Errorf("block %d in the way %d: %d calls", j, i, n.Made())
			}
		}
	}
}

// TestP27_2NoMore: where no share is open any more, nobody is asked any more.
func TestP27_2NoMore(t *testing.T) {
	w := truthOf(t, four{1, 3, 20, 200}, 5) // ten segments
	stores := holding(w.v.Index, w.shares, []int{0, 1}, []int{2})
	for stand := range 12 {
		n := begun(t, stores, append(behind(1+2*stand), slices.Repeat([]api.Fate{lie(repNone)}, 30)...), behind(1+stand, drop()))
		want := found(w.v, nil, w.in(2, on(0, 0), on(0, 1), on(1, 2)))
		calls, tick := 2+3*(stand+1), 1+stand+api.Patience
		if stand == 11 {
			want, calls, tick = found(w.v, want.Bad, nil), 2+3*11, 12
		}
		wantCheck(t, fmt.Sprint("they stand ", stand, " batches"), n, w.v, want)
		wantUntouched(t, n, tick, calls)
	}
}

// TestP27_2Late: a reply that comes as late as it may counts, whatever comes ahead of it.
func TestP27_2Late(t *testing.T) {
	w := truthOf(t, four{1, 2, 40, 100}, 6)
	stores := holding(w.v.Index, w.shares, []int{0, 1}, []int{0, 1})
	slow := slices.Repeat([]api.Fate{honest(10), honest(9), honest(3), honest(1)}, 5)
	n := begun(t, stores, slow, slow[1:])
	wantCheck(t, "slow replies", n, w.v, found(w.v, w.in(2, on(0, 0), on(0, 1), on(1, 0), on(1, 1)), nil))
	for i := range 9 {
		n := begun(t, stores, append(behind(i), late()), nil)
		c, e := check.Check(n, w.v)
		want := found(w.v, w.in(2, on(1, 0), on(1, 1)), nil, 0)
		if i > 0 { // fronts and blocks of both by turns
			fell := (i + 1) % 2
			want = found(w.v, w.in(2, on(0, 1-fell), on(1, 0), on(1, 1)), []api.Pair{on(0, fell)})
		}
		wantChecked(t, fmt.Sprint("call ", i, " too late"), c, e, want, api.OK)
	}
}

// TestP27_2LastTick: where no ticks are left, all goes on as ever.
func TestP27_2LastTick(t *testing.T) {
	examples(t, func(w truth) {
		n := exampleNet(t, w)
		n.Wait(api.MaxTick)
		wantCheck(t, "at the last tick", n, w.v, found(w.v, w.in(2, on(0, 0), on(0, 1), on(1, 1)), nil))
		wantUntouched(t, n, api.MaxTick, 11)
	})
}

// TestP27_2Shapes: files of all kinds, each share on some servers, none of them spoilt, or each.
func TestP27_2Shapes(t *testing.T) {
	for i, s := range shapes() {
		for _, w := range []truth{truthOf(t, s, i), noFile(s, i)} {
			stores := holding(w.v.Index, w.shares, upTo(s[1]), nil, upTo(s[1]/2), upTo(s[1]))
			n := begun(t, stores)
			c, e := check.Check(n, w.v)
			wantFollowed(t, fmt.Sprint(s), w, 4, n.Transcript(), c, e)
			holders := 3
			if s[1] == 1 {
				holders = 2
			}
			if !c.All || !c.Enough || len(c.Good) != 2*s[1]+s[1]/2 || len(c.Bad)+len(c.Silent) != 0 || c.Spread.Servers != holders {
				t.Errorf("%v: %v, %d good, %d bad", s, c.Spread, len(c.Good), len(c.Bad))
			}
			other := w.v
			other.Ueb[i] ^= 1
			n = begun(t, stores)
			c, e = check.Check(n, other)
			if e != api.OK || c.All || c.Enough || len(c.Good) != 0 || len(c.Bad) != 2*s[1]+s[1]/2 || n.Made() != 4+len(c.Bad) {
				t.Errorf("%v, another digest: %v, %d good, %d bad", s, c.Spread, len(c.Good), len(c.Bad))
			}
		}
	}
}

// TestP27_2Most: all servers that may be have all numbers that may be.
func TestP27_2Most(t *testing.T) {
	for _, s := range []four{{1, 255, 40, 40}, {255, 255, 255, 300}} {
		w := truthOf(t, s, 9)
		n := begun(t, holding(w.v.Index, w.shares, slices.Repeat([][]int{upTo(255)}, 32)...))
		c, e := check.Check(n, w.v)
		if e != api.OK || len(c.Good) != 32*255 || len(c.Bad)+len(c.Silent) != 0 || c.Spread != (api.Spread{Servers: 32, Numbers: 255, Happy: 32}) || !c.All || !c.Enough {
			t.Errorf("%v: %v, %d good, %d bad, %d", s, c.Spread, len(c.Good), len(c.Bad), e)
		}
		if n.Made() != w.most(32) {
			t.Errorf("%v: %d calls, want %d", s, n.Made(), w.most(32))
		}
	}
}

// TestP27_2OtherFours: under a capability whose K, N, Seg or Size are others than those of the Ueb that it speaks of nothing is good.
func TestP27_2OtherFours(t *testing.T) {
	w := truthOf(t, four{2, 3, 40, 100}, 11)
	stores := holding(w.v.Index, w.shares, []int{0, 1, 2})
	for _, x := range []four{{1, 3, 40, 100}, {2, 4, 40, 100}, {2, 2, 40, 100}, {2, 3, 42, 100}, {2, 3, 40, 99}, {2, 3, 40, 101}, {2, 3, 40, 120}, {2, 3, 40, 121}} {
		v := w.v
		v.K, v.N, v.Seg, v.Size = x[0], x[1], x[2], x[3]
		n := begun(t, stores)
		c, e := check.Check(n, v)
		if has := min(x[1], 3); e != api.OK || len(c.Good) != 0 || len(c.Bad) != has || n.Made() != 1+has || c.Enough || c.All || c.Spread != (api.Spread{}) {
			t.Errorf("%v: %+v, %d, %d calls", x, c, e, n.Made())
		}
	}
}
