package server_test

import (
	"bytes"
	"math/rand/v2"
	"slices"
	"testing"

	"strongroom/api"
	"strongroom/server"
)

// model is a server as the words say it: a list of shares in no order, gone through for each thing.
type model struct {
	room, tick int
	in         []api.Kept
}

func (m *model) used() int {
	n := 0
	for _, k := range m.in {
		n += len(k.Bytes)
	}
	return n
}

func (m *model) at(i api.Index, number int) *api.Kept {
	for j := range m.in {
		if m.in[j].Index == i && m.in[j].Number == number {
			return &m.in[j]
		}
	}
	return nil
}

func leaseOf(k *api.Kept, who uint32) *api.Lease {
	for j := range k.Leases {
		if k.Leases[j].Who == who {
			return &k.Leases[j]
		}
	}
	return nil
}

// drop takes away leases, and the shares that have none any more.
func (m *model) drop(over func(k api.Kept, l api.Lease) bool) {
	var in []api.Kept
	for _, k := range m.in {
		var left []api.Lease
		for _, l := range k.Leases {
			if !over(k, l) {
				left = append(left, l)
			}
		}
		k.Leases = left
		if len(left) > 0 {
			in = append(in, k)
		}
	}
	m.in = in
}

func (m *model) goOn(tick int) api.Errno {
	if tick < m.tick || tick > api.MaxTick {
		return api.ErrTick
	}
	m.tick = tick
	m.drop(func(_ api.Kept, l api.Lease) bool { return l.Until < tick })
	return api.OK
}

func lay(k *api.Kept, l api.Lease) {
	if old := leaseOf(k, l.Who); old != nil {
		old.Until = max(old.Until, l.Until)
		return
	}
	k.Leases = append(k.Leases, l)
}

func (m *model) store(r api.Request) api.RepKind {
	k := m.at(r.Index, r.Number)
	switch {
	case k == nil && m.used()+len(r.Bytes) > m.room:
		return api.RepFull
	case k == nil:
		m.in = append(m.in, api.Kept{Index: r.Index, Number: r.Number, Bytes: bytes.Clone(r.Bytes), Leases: []api.Lease{r.Lease}})
	case !bytes.Equal(k.Bytes, r.Bytes):
		return api.RepOther
	case len(k.Leases) == api.MaxLeases && leaseOf(k, r.Lease.Who) == nil:
		return api.RepFull
	default:
		lay(k, r.Lease)
	}
	return api.RepStored
}

// under gives the numbers under an index, rising: of all shares, or of those that somebody has a lease on.
func (m *model) under(i api.Index, all bool, who uint32) []int {
	var l []int
	for n := range 300 {
		if k := m.at(i, n); k != nil && (all || leaseOf(k, who) != nil) {
			l = append(l, n)
		}
	}
	return l
}

func (m *model) do(r api.Request) api.Reply {
	if !server.May(r) || (r.Kind == api.ReqStore || r.Kind == api.ReqRenew) && r.Lease.Until < m.tick {
		return only(api.RepRefused)
	}
	switch r.Kind {
	case api.ReqHave:
		return numbers(m.under(r.Index, true, 0)...)
	case api.ReqStore:
		return only(m.store(r))
	case api.ReqFetch:
		k := m.at(r.Index, r.Number)
		if k == nil || len(k.Bytes) < r.At+r.Len {
			return only(api.RepNone)
		}
		return some(string(k.Bytes[r.At : r.At+r.Len]))
	}
	l := m.under(r.Index, false, r.Lease.Who)
	if r.Kind == api.ReqRelease {
		m.drop(func(k api.Kept, old api.Lease) bool { return k.Index == r.Index && old.Who == r.Lease.Who })
		return numbers(l...)
	}
	for _, n := range l {
		lay(m.at(r.Index, n), r.Lease)
	}
	return numbers(l...)
}

func (m *model) state() api.Store {
	in := slices.Clone(m.in)
	for j := range in {
		in[j].Leases = slices.Clone(in[j].Leases)
		slices.SortFunc(in[j].Leases, func(a, b api.Lease) int { return int(a.Who) - int(b.Who) })
	}
	slices.SortFunc(in, func(a, b api.Kept) int {
		if a.Index != b.Index {
			return bytes.Compare(a.Index[:], b.Index[:])
		}
		return a.Number - b.Number
	})
	return api.Store{Room: m.room, Tick: m.tick, Kept: in}
}

// someIndex gives one of four indices at random.
func someIndex(r *rand.Rand) api.Index {
	return []api.Index{x, y, z, {}}[r.IntN(4)]
}

func someNumber(r *rand.Rand) int {
	return []int{0, 1, 3, 127, 254, 255, -1}[r.IntN(20)%7]
}

// someBytes gives one of few texts, so that the same come again.
func someBytes(r *rand.Rand) string {
	return []string{"", "a", "b", "abc", "abd", "twelve bytes"}[r.IntN(6)]
}

// someRequest gives one at random, seldom one that may not be.
func someRequest(r *rand.Rand, tick int) api.Request {
	i, n, who, until := someIndex(r), someNumber(r), uint32(r.IntN(6)), tick-1+r.IntN(9)
	var q api.Request
	switch r.IntN(12) {
	case 0:
		q = have(i)
	case 1:
		q = fetch(i, n, r.IntN(4), r.IntN(4))
	case 2, 3:
		q = renew(i, who, until)
	case 4:
		q = release(i, who)
	default:
		q = store(i, n, someBytes(r), who, until)
	}
	if r.IntN(30) == 0 {
		rows := odd()
		rows[r.IntN(len(rows))].turn(&q)
	}
	return q
}

// someTick gives one at random, mostly the same or the next ones.
func someTick(r *rand.Rand, now int) int {
	if r.IntN(25) == 0 {
		return noTicks()[r.IntN(len(noTicks()))]
	}
	return now + []int{0, 0, 0, 0, 0, 0, 1, 1, 2, 5, -1}[r.IntN(11)]
}

// step does one call at random on both.
func step(t *testing.T, r *rand.Rand, s *server.Server, m *model) {
	t.Helper()
	tick := someTick(r, m.tick)
	switch r.IntN(12) {
	case 0:
		wantTick(t, s, tick, m.goOn(tick))
	case 1:
		i, n, b := someIndex(r), someNumber(r), someBytes(r)
		k, want := m.at(i, n), api.ErrArg
		if k != nil && len(k.Bytes) == len(b) {
			k.Bytes, want = []byte(b), api.OK
		}
		if e := s.Spoil(i, n, []byte(b)); e != want {
			t.Errorf("Spoil: %d instead of %d", e, want)
		}
	default:
		q := someRequest(r, m.tick)
		if e := m.goOn(tick); e != api.OK {
			wantNoDo(t, s, tick, q, e)
			return
		}
		wantDo(t, s, tick, q, m.do(q))
	}
}

// starts gives the tick and the room that a seed begins with.
func starts(seed int) (int, int) {
	return []int{0, 7, 1 << 33, api.MaxTick - 40, api.MaxTick}[seed%5], []int{0, 5, 30, 100, api.MaxRoom}[seed/5%5]
}

// TestP19_1to6 holds servers against their models.
func TestP19_1to6(t *testing.T) {
	for seed := range 150 {
		r := rand.New(rand.NewPCG(uint64(seed), 19))
		tick, room := starts(seed)
		s, m := begun(t, room), &model{room: room}
		wantTick(t, s, tick, m.goOn(tick))
		for range 200 {
			step(t, r, s, m)
			wantState(t, s, m.state())
			var want []pair
			i := someIndex(r)
			for _, n := range m.under(i, true, 0) {
				want = append(want, pair{n, len(m.at(i, n).Bytes)})
			}
			wantNumbers(t, s.Numbers(i), want...)
		}
		if t.Failed() {
			t.Fatal(seed)
		}
	}
}

// TestP19_8: bytes stay as they were stored, and the room is never overfull.
func TestP19_8(t *testing.T) {
	type place struct {
		index  api.Index
		number int
	}
	for seed := range 60 {
		r := rand.New(rand.NewPCG(uint64(seed), 198))
		_, room := starts(seed)
		s, tick := begun(t, room), 0
		stored := map[place]string{}
		for range 300 {
			q := someRequest(r, tick)
			tick += r.IntN(2) * r.IntN(3)
			before := s.State()
			reply, e := s.Do(tick, q)
			if e != api.OK || s.Used() > room {
				t.Fatal(seed, e, s.Used(), room)
			}
			was := slices.ContainsFunc(before.Kept, func(k api.Kept) bool {
				runs := slices.ContainsFunc(k.Leases, func(l api.Lease) bool { return l.Until >= tick })
				return runs && k.Index == q.Index && k.Number == q.Number
			})
			if q.Kind == api.ReqStore && reply.Kind == api.RepStored && !was {
				stored[place{q.Index, q.Number}] = string(q.Bytes)
			}
			for _, k := range s.State().Kept {
				if b, is := stored[place{k.Index, k.Number}]; !is || b != string(k.Bytes) {
					t.Fatal(seed, k, b, is)
				}
			}
		}
	}
}

// TestP19_8AllThatIsTried: stores of other bytes, of the same ones, of other numbers and at other ticks change no byte of a share that stays.
func TestP19_8AllThatIsTried(t *testing.T) {
	s := begun(t, 9)
	wantDo(t, s, 0, store(x, 3, "abc", 1, 50), only(api.RepStored))
	for tick := range 50 {
		for _, b := range []string{"", "ab", "abd", "abcd", "ABC"} {
			wantDo(t, s, tick, store(x, 3, b, 1, tick), only(api.RepOther))
			wantDo(t, s, tick, store(x, 3, b, 9, 99), only(api.RepOther))
		}
		s.Do(tick, store(x, 4, "def", 2, tick))
		s.Do(tick, renew(x, 2, tick+1))
		s.Do(tick, release(x, 2))
		wantDo(t, s, tick, fetch(x, 3, 0, 3), some("abc"))
	}
}

// TestP19_9: whether a share is there at a tick, by its leases alone.
func TestP19_9(t *testing.T) {
	for seed := range 60 {
		r := rand.New(rand.NewPCG(uint64(seed), 199))
		s := begun(t, 10)
		until := map[uint32]int{} // the leases that were laid and not given up
		runs := func(tick int) bool {
			for _, u := range until {
				if u >= tick {
					return true
				}
			}
			return false
		}
		for tick := 0; tick < 300; tick += r.IntN(4) {
			if there := len(wantReply(t, s, tick, have(x)).Numbers) == 1; there != runs(tick) {
				t.Fatal(seed, tick, there, until)
			}
			for who, u := range until {
				if u < tick {
					delete(until, who)
				}
			}
			who, u := uint32(r.IntN(5)), tick+r.IntN(8)
			_, had := until[who]
			switch r.IntN(4) {
			case 0:
				wantReply(t, s, tick, store(x, 1, "abc", who, u))
				until[who] = max(until[who], u)
			case 1:
				if l := wantReply(t, s, tick, renew(x, who, u)).Numbers; (len(l) == 1) != had {
					t.Fatal(seed, l, had)
				}
				if had {
					until[who] = max(until[who], u)
				}
			case 2:
				if l := wantReply(t, s, tick, release(x, who)).Numbers; (len(l) == 1) != had {
					t.Fatal(seed, l, had)
				}
				delete(until, who)
			}
			if there := len(wantReply(t, s, tick, have(x)).Numbers) == 1; there != runs(tick) {
				t.Fatal(seed, tick, there, until)
			}
		}
	}
}

func wantReply(t *testing.T, s *server.Server, tick int, r api.Request) api.Reply {
	t.Helper()
	got, e := s.Do(tick, r)
	if e != api.OK {
		t.Fatalf("Do(%d, %v): %d", tick, r, e)
	}
	return got
}

// TestP19_10: behind any calls, a server and one that is loaded with what it told answer the same.
func TestP19_10(t *testing.T) {
	for seed := range 100 {
		r := rand.New(rand.NewPCG(uint64(seed), 200))
		tick, room := starts(seed)
		s, m := begun(t, room), &model{room: room}
		wantTick(t, s, tick, m.goOn(tick))
		for range 60 {
			step(t, r, s, m)
		}
		again := loaded(t, s.State())
		wantState(t, again, m.state())
		for range 100 {
			step(t, r, again, m)
			wantState(t, again, m.state())
		}
		if t.Failed() {
			t.Fatal(seed)
		}
	}
}

// TestP19_10Crowded: a share with as many leases as may be goes there and back, too.
func TestP19_10Crowded(t *testing.T) {
	s, _ := crowded(t)
	for tick := range 80 {
		wantTick(t, s, tick, api.OK)
		again := loaded(t, s.State())
		wantState(t, again, s.State())
		for _, q := range []api.Request{have(x), fetch(x, 1, 1, 2), store(x, 1, "abc", 999, 99), renew(x, 20, tick), release(x, 40), have(x)} {
			one, e := loaded(t, s.State()).Do(tick, q)
			if e != api.OK {
				t.Fatal(e)
			}
			wantDo(t, again, tick, q, one)
			again = loaded(t, s.State())
		}
	}
	wantState(t, s, api.Store{Room: 10, Tick: 79})
}

// TestP19_11: ticks one by one, and ticks that are leapt over.
func TestP19_11(t *testing.T) {
	for seed := range 60 {
		r := rand.New(rand.NewPCG(uint64(seed), 201))
		m := &model{room: 100}
		s := begun(t, 100)
		for range 80 {
			step(t, r, s, m)
		}
		for leap := range 12 {
			one, other := loaded(t, s.State()), loaded(t, s.State())
			for i := range leap + 1 {
				wantTick(t, one, m.tick+i, api.OK)
			}
			wantTick(t, other, m.tick+leap, api.OK)
			wantState(t, one, other.State())
			byDo := loaded(t, s.State())
			for range r.IntN(3) {
				byDo.Do(m.tick+r.IntN(leap+1), have(x))
			}
			wantReply(t, byDo, m.tick+leap, fetch(x, 1, 0, 1))
			wantState(t, byDo, other.State())
		}
		if t.Failed() {
			t.Fatal(seed)
		}
	}
}

// TestP19_11NothingElse: a have and a fetch do what the tick does, and no more.
func TestP19_11NothingElse(t *testing.T) {
	for _, q := range []api.Request{have(x), have(y), have(api.Index{}), fetch(x, 3, 0, 5), fetch(x, 3, 0, 6), fetch(x, 0, 0, 1), fetch(x, 9, 0, 1)} {
		for tick := 3; tick < 12; tick++ {
			one, _ := example(t)
			other, _ := example(t)
			wantReply(t, one, tick, q)
			wantTick(t, other, tick, api.OK)
			wantState(t, one, other.State())
		}
	}
}

// TestMany: very many shares under very many indices.
func TestMany(t *testing.T) {
	s := begun(t, api.MaxRoom)
	n := 20_000
	index := func(i int) api.Index { return api.Index{byte(i), byte(i >> 8), 15: byte(i * 7)} }
	for i := range n {
		wantDo(t, s, 0, store(index(i/2), i%2, "abc", uint32(i%3), 1+i%5), only(api.RepStored))
	}
	if s.Used() != 3*n || len(s.State().Kept) != n {
		t.Error(s.Used())
	}
	wantTick(t, s, 3, api.OK)
	if s.Used() != 3*n*3/5 {
		t.Error(s.Used())
	}
	wantState(t, loaded(t, s.State()), s.State())
	for i := range n / 2 {
		for _, number := range wantReply(t, s, 3, have(index(i))).Numbers {
			wantDo(t, s, 3, fetch(index(i), number, 0, 3), some("abc"))
		}
	}
	wantTick(t, s, 6, api.OK)
	wantState(t, s, api.Store{Room: api.MaxRoom, Tick: 6})
}
