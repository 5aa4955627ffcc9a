package server_test

import (
	"math"
	"testing"

	"strongroom/api"
	"strongroom/server"
)

// sound gives a request that may be of each kind, with something in all fields that it uses.
func sound() []api.Request {
	return []api.Request{
		have(x),
		store(x, 3, "abc", 1, 5),
		fetch(x, 3, 4, 2),
		renew(x, 1, 5),
		release(x, 1),
	}
}

// oddity is something that is changed in a request, and the letters of the kinds that may be so.
type oddity struct {
	name string
	turn func(r *api.Request)
	may  string
}

// odd gives what may be wrong with a request.
func odd() []oddity {
	number := func(n int) func(*api.Request) { return func(r *api.Request) { r.Number = n } }
	at := func(n int) func(*api.Request) { return func(r *api.Request) { r.At = n } }
	length := func(n int) func(*api.Request) { return func(r *api.Request) { r.Len = n } }
	until := func(n int) func(*api.Request) { return func(r *api.Request) { r.Lease.Until = n } }
	who := func(n uint32) func(*api.Request) { return func(r *api.Request) { r.Lease.Who = n } }
	b := func(b []byte) func(*api.Request) { return func(r *api.Request) { r.Bytes = b } }
	rows := []oddity{
		{"no index", func(r *api.Request) { r.Index = api.Index{} }, "HSFNL"},
		{"another index", func(r *api.Request) { r.Index = api.Index{15: 255} }, "HSFNL"},
		{"number 0", number(0), "HSFNL"},
		{"number 1", number(1), "SF"},
		{"the last number", number(api.MaxN - 1), "SF"},
		{"at 0", at(0), "HSFNL"},
		{"at 1", at(1), "F"},
		{"the last place", at(api.MaxShare), "F"},
		{"length 0", length(0), "HSNL"},
		{"length 1", length(1), "F"},
		{"the greatest length", length(api.MaxFetch), "F"},
		{"until 0", until(0), "HSFNL"},
		{"until 1", until(1), "SN"},
		{"until the last tick", until(api.MaxTick), "SN"},
		{"nobody", who(0), "HSFNL"},
		{"who 1", who(1), "SNL"},
		{"the last who", who(math.MaxUint32), "SNL"},
		{"no bytes", b(nil), "HSFNL"},
		{"an empty list", b([]byte{}), "HSFNL"},
		{"bytes", b([]byte{0}), "S"},
	}
	for _, n := range []int{-1, math.MinInt, api.MaxN, api.MaxN + 1, 512, 1 << 32, math.MaxInt} {
		rows = append(rows, oddity{"number", number(n), ""})
	}
	for _, n := range []int{-1, math.MinInt, api.MaxShare + 1, 1 << 32, math.MaxInt} {
		rows = append(rows, oddity{"at", at(n), ""})
	}
	for _, n := range []int{-1, math.MinInt, api.MaxFetch + 1, 1 << 32, math.MaxInt} {
		rows = append(rows, oddity{"length", length(n), ""})
	}
	for _, n := range noTicks() {
		rows = append(rows, oddity{"until", until(n), ""})
	}
	return rows
}

// great gives what is odd by its length alone.
func great() []oddity {
	b := make([]byte, api.MaxShare+1)
	return []oddity{
		{"as many bytes as may be", func(r *api.Request) { r.Bytes = b[1:] }, "S"},
		{"too many bytes", func(r *api.Request) { r.Bytes = b }, ""},
	}
}

func TestP19_1May(t *testing.T) {
	for i, r := range sound() {
		letter := "HSFNL"[i]
		if !server.May(r) {
			t.Errorf("%c may be", letter)
		}
		for _, o := range append(odd(), great()...) {
			changed := r
			o.turn(&changed)
			want := false
			for j := range o.may {
				want = want || o.may[j] == letter
			}
			if server.May(changed) != want {
				t.Errorf("%c with %s: not %v", letter, o.name, want)
			}
		}
	}
}

func TestP19_1MayOfNoKind(t *testing.T) {
	for kind := range 256 {
		r := api.Request{Kind: api.ReqKind(kind), Index: x}
		want := kind == 1 || kind == 2 || kind == 4 || kind == 5 // a fetch has a length
		if server.May(r) != want {
			t.Error(kind)
		}
		for i, r := range sound() {
			if r.Kind = api.ReqKind(kind); server.May(r) && (kind < 1 || kind > 5) {
				t.Error(kind, i)
			}
		}
	}
}

// TestP19_3Refused: what may not be is refused, the tick goes on all the same, and nothing else is done.
func TestP19_3Refused(t *testing.T) {
	s, st := example(t)
	for i, r := range sound() {
		for _, o := range append(odd(), great()...) {
			changed := r
			o.turn(&changed)
			if server.May(changed) {
				continue
			}
			if got, e := s.Do(3, changed); !sameReply(got, only(api.RepRefused)) || e != api.OK {
				t.Errorf("%d with %s: %v, %d", i, o.name, got, e)
			}
		}
	}
	for _, kind := range []api.ReqKind{0, 6, 7, 128, 255} {
		for _, r := range sound() {
			r.Kind = kind
			wantDo(t, s, 3, r, only(api.RepRefused))
		}
	}
	wantState(t, s, st)
	wantDo(t, s, 5, api.Request{Kind: 9}, only(api.RepRefused))
	wantState(t, s, kept(st, 5, st.Kept[1:]...))
	bad := release(x, 2)
	bad.Lease.Until = 9
	wantDo(t, s, 5, bad, only(api.RepRefused))
	wantState(t, s, kept(st, 5, st.Kept[1:]...))
}

// TestP19_3LeaseIsOver: a store and a renewal need a lease that runs.
func TestP19_3LeaseIsOver(t *testing.T) {
	s, st := example(t)
	for until := range 3 {
		wantDo(t, s, 3, store(x, 3, "three", 2, until), only(api.RepRefused))
		wantDo(t, s, 3, store(x, 3, "other", 2, until), only(api.RepRefused)) // ahead of RepOther
		wantDo(t, s, 3, store(x, 99, string(make([]byte, 99)), 2, until), only(api.RepRefused))
		wantDo(t, s, 3, renew(x, 2, until), only(api.RepRefused))
		wantDo(t, s, 3, renew(x, 99, until), only(api.RepRefused))
	}
	wantState(t, s, st)
	wantDo(t, s, 3, store(x, 1, "a", 2, 3), only(api.RepStored))
	wantDo(t, s, 3, renew(x, 1, 3), numbers(12))
	wantDo(t, s, 4, have(x), numbers(0, 3, 12))
	wantDo(t, s, 6, store(x, 1, "a", 2, 5), only(api.RepRefused)) // at the tick of the request
	wantDo(t, s, 6, have(x), numbers(3))
}

func TestP19_3NoTick(t *testing.T) {
	s, st := example(t)
	for _, tick := range append(noTicks(), 0, 1, 2) {
		for _, r := range append(sound(), api.Request{}, fetch(x, 3, 0, 0)) {
			wantNoDo(t, s, tick, r, api.ErrTick)
		}
	}
	wantState(t, s, st)
}

// TestP19_3TickFirst: Do goes on to the tick ahead of what is asked.
func TestP19_3TickFirst(t *testing.T) {
	at := func() *server.Server { s, _ := example(t); return s }
	wantDo(t, at(), 4, have(x), numbers(0, 3, 12))
	wantDo(t, at(), 5, have(x), numbers(3, 12))
	wantDo(t, at(), 6, have(x), numbers(3))
	wantDo(t, at(), 8, have(x), numbers())
	wantDo(t, at(), 6, fetch(x, 12, 0, 1), only(api.RepNone))
	wantDo(t, at(), 6, renew(x, 4, 9), numbers())
	wantDo(t, at(), 6, release(x, 4), numbers())
	wantDo(t, at(), 6, release(x, 2), numbers(3))
	wantDo(t, at(), 8, store(x, 3, "other", 2, 9), only(api.RepStored)) // the share that was there is gone
	wantDo(t, at(), 3, store(x, 20, string(make([]byte, 25)), 2, 9), only(api.RepFull))
	wantDo(t, at(), 6, store(x, 20, string(make([]byte, 31)), 2, 9), only(api.RepFull))
	wantDo(t, at(), 6, store(x, 20, string(make([]byte, 30)), 2, 9), only(api.RepStored)) // what was thrown away makes room
}

func TestP19_3Have(t *testing.T) {
	s, st := example(t)
	for range 2 {
		wantDo(t, s, 3, have(x), numbers(0, 3, 12))
		wantDo(t, s, 3, have(y), numbers(3))
		wantDo(t, s, 3, have(z), numbers(0))
		wantDo(t, s, 3, have(api.Index{}), numbers())
		wantDo(t, s, 3, have(api.Index{7, 14: 1}), numbers())
	}
	wantState(t, s, st)
}

func TestP19_3Fetch(t *testing.T) {
	s, st := example(t)
	text := "three"
	for at := range 7 {
		for n := 1; n < 8; n++ {
			want := only(api.RepNone)
			if at+n <= len(text) {
				want = some(text[at : at+n])
			}
			wantDo(t, s, 3, fetch(x, 3, at, n), want)
		}
	}
	wantDo(t, s, 3, fetch(x, 0, 0, 1), only(api.RepNone)) // a share of no bytes
	wantDo(t, s, 3, fetch(x, 4, 0, 1), only(api.RepNone))
	wantDo(t, s, 3, fetch(z, 3, 0, 1), only(api.RepNone))
	wantDo(t, s, 3, fetch(y, 3, 0, 3), some("yyy"))
	wantDo(t, s, 3, fetch(x, 3, api.MaxShare, api.MaxFetch), only(api.RepNone))
	wantDo(t, s, 3, fetch(x, 3, 0, api.MaxFetch+1), only(api.RepRefused))
	wantDo(t, s, 3, fetch(x, 3, 0, 0), only(api.RepRefused))
	wantDo(t, s, 3, fetch(x, 255, 0, 1), only(api.RepRefused))
	wantState(t, s, st)
}

func TestP19_3StoreRoom(t *testing.T) {
	s := begun(t, 10)
	wantDo(t, s, 0, store(x, 1, "12345678901", 1, 5), only(api.RepFull))
	wantState(t, s, api.Store{Room: 10})
	wantDo(t, s, 0, store(x, 1, "1234567890", 1, 5), only(api.RepStored))
	wantDo(t, s, 0, store(x, 2, "1", 1, 5), only(api.RepFull))
	wantDo(t, s, 0, store(z, 1, "1", 1, 5), only(api.RepFull))
	wantDo(t, s, 0, store(x, 2, "", 1, 5), only(api.RepStored)) // no bytes need no room
	wantDo(t, s, 0, store(x, 1, "1234567890", 2, 6), only(api.RepStored))
	want := []api.Kept{share(x, 1, "1234567890", lease(1, 5), lease(2, 6)), share(x, 2, "", lease(1, 5))}
	wantState(t, s, api.Store{Room: 10, Kept: want})
	wantDo(t, s, 6, release(x, 2), numbers(1))
	wantDo(t, s, 6, store(x, 2, "1234567890", 1, 9), only(api.RepStored))
	wantDo(t, s, 6, store(x, 1, "1", 1, 9), only(api.RepFull))

	none := begun(t, 0)
	wantDo(t, none, 0, store(x, 0, "a", 1, 5), only(api.RepFull))
	wantDo(t, none, 0, store(x, 0, "", 1, 5), only(api.RepStored))
	wantDo(t, none, 0, store(x, 0, "a", 1, 5), only(api.RepOther)) // there is another one: room is not asked for
	wantDo(t, none, 0, fetch(x, 0, 0, 1), only(api.RepNone))
}

func TestP19_3StoreOther(t *testing.T) {
	s, st := example(t)
	for _, b := range []string{"", "t", "thre", "three!", "Three", "threE", "\x00\x00\x00\x00\x00"} {
		wantDo(t, s, 3, store(x, 3, b, 2, 20), only(api.RepOther))
		wantDo(t, s, 3, store(x, 3, b, 9, 20), only(api.RepOther))
	}
	wantDo(t, s, 3, store(x, 0, "\x00", 2, 20), only(api.RepOther))
	wantDo(t, s, 3, store(x, 3, string(make([]byte, 100)), 2, 20), only(api.RepOther))
	wantState(t, s, st)
	wantDo(t, s, 3, store(y, 12, "another", 9, 20), only(api.RepStored)) // the same number under another index
}

// TestP19_3StoreLays: what the greater Until is, and which others stay.
func TestP19_3StoreLays(t *testing.T) {
	s, _ := example(t)
	for _, c := range []struct {
		who   uint32
		until int
		want  []api.Lease
	}{
		{2, 6, []api.Lease{lease(2, 7), lease(4, 5)}},
		{2, 7, []api.Lease{lease(2, 7), lease(4, 5)}},
		{2, 8, []api.Lease{lease(2, 8), lease(4, 5)}},
		{4, 3, []api.Lease{lease(2, 8), lease(4, 5)}},
		{4, 30, []api.Lease{lease(2, 8), lease(4, 30)}},
		{3, 3, []api.Lease{lease(2, 8), lease(3, 3), lease(4, 30)}},
		{0, 9, []api.Lease{lease(0, 9), lease(2, 8), lease(3, 3), lease(4, 30)}},
		{math.MaxUint32, 9, []api.Lease{lease(0, 9), lease(2, 8), lease(3, 3), lease(4, 30), lease(math.MaxUint32, 9)}},
	} {
		wantDo(t, s, 3, store(x, 3, "three", c.who, c.until), only(api.RepStored))
		_, st := example(t)
		st.Kept[1].Leases = c.want
		wantState(t, s, st)
	}
}

// crowded gives a server with a share of as many leases as may be, that of Who 2i running up to 10 + i.
func crowded(t *testing.T) (*server.Server, []api.Lease) {
	s := begun(t, 10)
	var all []api.Lease
	for i := range api.MaxLeases {
		l := lease(uint32(2*i), 10+i)
		wantDo(t, s, 0, store(x, 1, "abc", l.Who, l.Until), only(api.RepStored))
		all = append(all, l)
	}
	wantState(t, s, api.Store{Room: 10, Kept: []api.Kept{share(x, 1, "abc", all...)}})
	return s, all
}

func TestP19_3StoreTooManyLeases(t *testing.T) {
	s, all := crowded(t)
	wantDo(t, s, 0, store(x, 1, "abc", 1, 99), only(api.RepFull))
	wantDo(t, s, 0, store(x, 1, "abc", 999, 99), only(api.RepFull))
	wantDo(t, s, 0, store(x, 1, "abd", 999, 99), only(api.RepOther)) // ahead of RepFull
	wantState(t, s, api.Store{Room: 10, Kept: []api.Kept{share(x, 1, "abc", all...)}})
	wantDo(t, s, 0, store(x, 1, "abc", 126, 99), only(api.RepStored))
	wantDo(t, s, 0, store(x, 1, "abc", 0, 9), only(api.RepStored))
	wantDo(t, s, 0, renew(x, 4, 15), numbers(1))
	all[63].Until, all[2].Until = 99, 15
	wantState(t, s, api.Store{Room: 10, Kept: []api.Kept{share(x, 1, "abc", all...)}})
	wantDo(t, s, 0, store(x, 2, "abc", 1, 99), only(api.RepStored)) // another share has leases of its own
	wantDo(t, s, 0, release(x, 6), numbers(1))
	wantDo(t, s, 0, store(x, 1, "abc", 1, 99), only(api.RepStored))
	wantDo(t, s, 0, store(x, 1, "abc", 6, 99), only(api.RepFull))
	wantDo(t, s, 10, store(x, 1, "abc", 6, 99), only(api.RepFull))
	wantDo(t, s, 11, store(x, 1, "abc", 6, 99), only(api.RepStored)) // that of 0 is over
	wantDo(t, s, 11, store(x, 1, "abc", 0, 99), only(api.RepFull))
}

func TestP19_3Renew(t *testing.T) {
	s, st := example(t)
	wantDo(t, s, 3, renew(x, 2, 6), numbers(0, 3))
	st.Kept[0].Leases[0].Until = 6 // that of the share 3 runs longer
	wantState(t, s, st)
	wantDo(t, s, 3, renew(x, 2, 3), numbers(0, 3))
	wantState(t, s, st)
	wantDo(t, s, 3, renew(x, 2, 9), numbers(0, 3))
	st.Kept[0].Leases[0].Until, st.Kept[1].Leases[0].Until = 9, 9
	wantState(t, s, st)
	wantDo(t, s, 3, renew(x, 5, 9), numbers()) // it has a lease under another index
	wantDo(t, s, 3, renew(x, 3, 9), numbers())
	wantDo(t, s, 3, renew(api.Index{}, 2, 9), numbers())
	wantState(t, s, st)
	wantDo(t, s, 3, renew(x, 1, api.MaxTick), numbers(12))
	wantDo(t, s, api.MaxTick, have(x), numbers(12))
}

func TestP19_3Release(t *testing.T) {
	s, st := example(t)
	k := st.Kept
	for _, r := range []api.Request{release(x, 5), release(x, 3), release(x, 0), release(api.Index{}, 2)} {
		wantDo(t, s, 3, r, numbers())
	}
	wantState(t, s, st)
	wantDo(t, s, 3, release(x, 2), numbers(0, 3)) // the lease of 2 under y stays
	three := share(x, 3, "three", lease(4, 5))
	wantState(t, s, kept(st, 3, three, k[2], k[3], k[4]))
	wantDo(t, s, 3, release(x, 2), numbers())
	wantDo(t, s, 3, release(x, 4), numbers(3))
	wantState(t, s, kept(st, 3, k[2:]...))
	wantDo(t, s, 3, fetch(x, 3, 0, 1), only(api.RepNone))
	wantDo(t, s, 3, store(x, 3, "other", 4, 5), only(api.RepStored))
	wantDo(t, s, 3, release(y, 2), numbers(3))
	wantDo(t, s, 3, have(x), numbers(3, 12))
	wantDo(t, s, 3, have(y), numbers())
}
