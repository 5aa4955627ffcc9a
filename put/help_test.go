package put_test

import (
	"bytes"
	"math"
	"slices"
	"testing"

	"strongroom/api"
	"strongroom/post"
	"strongroom/put"
	"strongroom/recipe"
	"strongroom/ring"
	"strongroom/wire"
)

var (
	x = api.Index{7}
	y = api.Index{200}
)

// The replies to a store, as bytes.
const (
	repStored  = 2
	repFull    = 3
	repOther   = 4
	repRefused = 7
)

// filled gives a file of so many bytes.
func filled(n int) []byte {
	b := make([]byte, n)
	for i := range b {
		b[i] = byte(i*i>>3 + 5*i)
	}
	return b
}

func params(k, n, seg, happy int) api.Params { return api.Params{K: k, N: n, Seg: seg, Happy: happy} }

func lease(who uint32, until int) api.Lease { return api.Lease{Who: who, Until: until} }

// honest, lie, drop and lose give fates.
func honest(delay int) api.Fate { return api.Fate{Kind: api.FateHonest, Delay: delay} }

func lie(b ...byte) api.Fate { return api.Fate{Kind: api.FateLie, Delay: 1, Bytes: b} }

func drop() api.Fate { return api.Fate{Kind: api.FateDrop, Delay: 1} }

func lose() api.Fate { return api.Fate{Kind: api.FateLose, Delay: 1} }

// rooms gives stores without shares.
func rooms(sizes ...int) []api.Store {
	var stores []api.Store
	for _, s := range sizes {
		stores = append(stores, api.Store{Room: s})
	}
	return stores
}

// roomyServers gives so many stores with room for whatever comes.
func roomyServers(n int) []api.Store { return slices.Repeat(rooms(api.MaxRoom), n) }

func begun(t *testing.T, stores []api.Store, fates ...[]api.Fate) *post.Net {
	t.Helper()
	n, e := post.New(stores, fates)
	if n == nil || e != api.OK {
		t.Fatalf("New: %v, %d", n, e)
	}
	return n
}

// noNets are nets that post's New did not make.
func noNets(t *testing.T) []*post.Net {
	copied := *begun(t, rooms(100, 100, 100))
	return []*post.Net{nil, {}, &copied}
}

// made gives what a file comes to.
func made(t *testing.T, file []byte, p api.Params) api.Made {
	t.Helper()
	m, e := recipe.Make(file, p)
	if e != api.OK {
		t.Fatalf("Make: %d", e)
	}
	return m
}

func order(t *testing.T, i api.Index, servers int) []int {
	t.Helper()
	l, e := ring.Order(i, servers)
	if e != api.OK {
		t.Fatalf("Order: %d", e)
	}
	return l
}

// storeBytes and releaseBytes put requests together by the words of chapter 20.
func storeBytes(i api.Index, number int, l api.Lease, share []byte) []byte {
	b := append([]byte{2}, i[:]...)
	b = append(b, byte(number))
	for shift := 24; shift >= 0; shift -= 8 {
		b = append(b, byte(l.Who>>shift))
	}
	for shift := 56; shift >= 0; shift -= 8 {
		b = append(b, byte(l.Until>>shift))
	}
	for shift := 24; shift >= 0; shift -= 8 {
		b = append(b, byte(len(share)>>shift))
	}
	return append(b, share...)
}

func releaseBytes(i api.Index, who uint32) []byte {
	b := append([]byte{5}, i[:]...)
	return append(b, byte(who>>24), byte(who>>16), byte(who>>8), byte(who))
}

// sent is a call as it stands in a transcript, without what came of it.
type sent struct {
	tick    int
	server  int
	request []byte
}

// wantSent holds the calls of a transcript from a number on against what must have been sent.
func wantSent(t *testing.T, n *post.Net, from int, want ...sent) {
	t.Helper()
	trace := n.Transcript()
	if len(trace) != from+len(want) {
		t.Fatalf("%d calls, want %d", len(trace), from+len(want))
	}
	for i, c := range trace[from:] {
		if w := want[i]; c.Sent != w.tick || c.Server != w.server || !bytes.Equal(c.Request, w.request) {
			t.Errorf("call %d: at %d to %d: %.60x, want at %d to %d: %.60x", from+i, c.Sent, c.Server, c.Request, w.tick, w.server, w.request)
		}
	}
}

// wantUntouched: nothing was asked of a net and no tick went by.
func wantUntouched(t *testing.T, n *post.Net, tick, calls int) {
	t.Helper()
	if n.Tick() != tick || n.Made() != calls {
		t.Errorf("tick %d, %d calls, want %d and %d", n.Tick(), n.Made(), tick, calls)
	}
}

// kept gives the numbers of the shares under an index that a server has, and on which a Who has a lease.
func kept(t *testing.T, n *post.Net, server int, i api.Index, who uint32) []int {
	t.Helper()
	s, e := n.Store(server)
	if e != api.OK {
		t.Fatal(e)
	}
	var numbers []int
	for _, k := range s.Kept {
		if k.Index == i && slices.ContainsFunc(k.Leases, func(l api.Lease) bool { return l.Who == who }) {
			numbers = append(numbers, k.Number)
		}
	}
	return numbers
}

// wantNoneLeft: a Who has no lease on any share under an index.
func wantNoneLeft(t *testing.T, n *post.Net, i api.Index, who uint32) {
	t.Helper()
	for s := range n.Servers() {
		if l := kept(t, n, s, i, who); len(l) != 0 {
			t.Errorf("server %d keeps %v", s, l)
		}
	}
}

func sameCap(a, b api.Cap) bool {
	return a.Kind == b.Kind && a.Dir == b.Dir && a.Read == b.Read && a.Verify == b.Verify && bytes.Equal(a.Lit, b.Lit)
}

func sameStored(a, b api.Stored) bool {
	return sameCap(a.Cap, b.Cap) && slices.Equal(a.Placed, b.Placed)
}

// wantPut holds a put against the capability to read and the pairs.
func wantPut(t *testing.T, n *post.Net, file []byte, p api.Params, l api.Lease, want ...api.Pair) {
	t.Helper()
	s, e := put.Put(n, file, p, l)
	c := api.Cap{Kind: api.CapRead, Read: made(t, file, p).Read}
	if e != api.OK || !sameStored(s, api.Stored{Cap: c, Placed: want}) {
		t.Errorf("Put: %+v, %d, want %v", s, e, want)
	}
}

func wantNoPut(t *testing.T, n *post.Net, file []byte, p api.Params, l api.Lease, want api.Errno) {
	t.Helper()
	if s, e := put.Put(n, file, p, l); e != want || !sameStored(s, api.Stored{}) {
		t.Errorf("Put of %d bytes, %+v, %v: %+v, %d instead of %d", len(file), p, l, s, e, want)
	}
}

// odd are numbers far from all that may be, and such as a narrower number would take for one.
func odd() []int {
	return []int{-1, -2, -256, math.MinInt, math.MinInt32, math.MaxInt, math.MaxInt32, 1 << 32, 1<<32 + 1, 1 << 16}
}

// isStore reads a request that must be a store.
func isStore(t *testing.T, b []byte) api.Request {
	t.Helper()
	q, _, e := wire.Request(b)
	if e != api.OK || q.Kind != api.ReqStore {
		t.Fatalf("%.40x is no store: %d", b, e)
	}
	return q
}
