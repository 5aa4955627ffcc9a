package post_test

import (
	"bytes"
	"cmp"
	"math"
	"math/rand/v2"
	"slices"
	"testing"

	"strongroom/api"
	"strongroom/post"
	"strongroom/server"
	"strongroom/wire"
)

// model is a net as the words say it: call after call, without goroutines and without a clock.
type model struct {
	servers []*server.Server
	rows    [][]api.Fate
	asked   []int
	tick    int
	trace   []api.Exchange
}

func newModel(stores []api.Store, fates [][]api.Fate) *model {
	m := &model{rows: make([][]api.Fate, len(stores)), asked: make([]int, len(stores))}
	for _, s := range stores {
		one, _ := server.Load(s)
		m.servers = append(m.servers, one)
	}
	copy(m.rows, fates)
	return m
}

func (m *model) do(s int, request []byte) []byte {
	q, _, e := wire.Request(request)
	if e != api.OK {
		return []byte{7}
	}
	r, _ := m.servers[s].Do(m.tick, q)
	b, _ := wire.PutReply(r)
	return b
}

// fall gives what becomes of a call: the reply, and how many ticks later it comes; 0, if none does.
func (m *model) fall(c api.Call) ([]byte, int) {
	f := honest(1)
	if k := m.asked[c.Server]; k < len(m.rows[c.Server]) {
		f = m.rows[c.Server][k]
	}
	m.asked[c.Server]++
	var reply []byte
	if f.Kind == api.FateHonest || f.Kind == api.FateLose {
		reply = m.do(c.Server, c.Bytes)
	}
	if f.Kind == api.FateLie {
		reply = f.Bytes
	}
	if f.Kind != api.FateHonest && f.Kind != api.FateLie || f.Delay > 10 || len(reply) > 1<<17+64 {
		return nil, 0
	}
	return reply, max(f.Delay, 1)
}

func (m *model) ask(batch []api.Call) []api.Answer {
	var answers []api.Answer
	lacks, last, first := false, 0, len(m.trace)
	for place, c := range batch {
		reply, after := m.fall(c)
		last, lacks = max(last, after), lacks || after == 0
		answers = append(answers, api.Answer{Place: place, Came: after > 0, Tick: min(m.tick+after, 1<<40), Bytes: reply})
		m.trace = append(m.trace, api.Exchange{Number: first + place, Server: c.Server, Sent: m.tick, Request: c.Bytes})
	}
	if lacks {
		last = 10
	}
	m.goOn(last)
	for i, a := range answers {
		if !a.Came {
			answers[i].Tick = m.tick
		}
		x := &m.trace[first+i]
		x.Came, x.Tick, x.Reply = a.Came, answers[i].Tick, a.Bytes
	}
	slices.SortStableFunc(answers, func(a, b api.Answer) int {
		switch {
		case a.Came && b.Came:
			return cmp.Compare(a.Tick, b.Tick)
		case a.Came:
			return -1
		case b.Came:
			return 1
		}
		return 0
	})
	return answers
}

func (m *model) goOn(ticks int) {
	m.tick = min(m.tick+ticks, 1<<40)
	for _, s := range m.servers {
		s.Tick(m.tick)
	}
}

// draw draws what nets are made of, and what is asked of them.
type draw struct{ *rand.Rand }

func drawn(seed uint64) draw { return draw{rand.New(rand.NewPCG(seed, 21))} }

func (d draw) index() api.Index { return api.Index{byte(d.IntN(2)), 15: byte(d.IntN(2))} }

func (d draw) bytes(most int) []byte {
	b := make([]byte, d.IntN(most+1))
	for i := range b {
		b[i] = byte(d.IntN(3))
	}
	return b
}

// store draws what a server holds at the tick 0.
func (d draw) store() api.Store {
	s, _ := server.New(d.IntN(30))
	for range d.IntN(5) {
		s.Do(0, api.Request{Kind: api.ReqStore, Index: d.index(), Number: d.IntN(4), Lease: api.Lease{Who: uint32(d.IntN(3)), Until: d.IntN(60)}, Bytes: d.bytes(6)})
	}
	return s.State()
}

func (d draw) stores() []api.Store {
	stores := make([]api.Store, 1+d.IntN(5))
	if d.IntN(20) == 0 {
		stores = make([]api.Store, api.MaxServers)
	}
	for i := range stores {
		stores[i] = d.store()
	}
	return stores
}

func (d draw) fate() api.Fate {
	delays := []int{1, 2, 3, 4, 5, 9, 10, 1, 2, 3, 0, -1, math.MinInt, 11, 12, 1000, 1001, math.MaxInt}
	f := api.Fate{Kind: api.FateHonest, Delay: delays[d.IntN(len(delays))], Bytes: d.bytes(4)}
	if d.IntN(2) == 0 {
		f.Kind = api.FateKind(d.IntN(6))
	}
	if d.IntN(200) == 0 {
		f.Bytes = make([]byte, api.MaxReply+d.IntN(2))
	}
	return f
}

func (d draw) fates(servers int) [][]api.Fate {
	fates := make([][]api.Fate, d.IntN(servers+1))
	for i := range fates {
		for range d.IntN(30) {
			fates[i] = append(fates[i], d.fate())
		}
	}
	return fates
}

// request draws a request's bytes, or some that are none.
func (d draw) request(tick int) []byte {
	l := api.Lease{Who: uint32(d.IntN(3)), Until: max(0, min(tick+d.IntN(60)-5, api.MaxTick))}
	q := api.Request{Kind: api.ReqKind(1 + d.IntN(5)), Index: d.index()}
	switch q.Kind {
	case api.ReqStore:
		q.Number, q.Lease, q.Bytes = d.IntN(4), l, d.bytes(6)
	case api.ReqFetch:
		q.Number, q.At, q.Len = d.IntN(4), d.IntN(3), 1+d.IntN(4)
	case api.ReqRenew:
		q.Lease = l
	case api.ReqRelease:
		q.Lease.Who = l.Who
	}
	b := bytesOf(q)
	if d.IntN(10) == 0 {
		return b[:d.IntN(len(b))]
	}
	return b
}

func (d draw) batch(servers, tick int) []api.Call {
	batch := make([]api.Call, d.IntN(9))
	for i := range batch {
		batch[i] = to(d.IntN(servers), d.request(tick))
	}
	return batch
}

func (d draw) ticks() int {
	ticks := []int{0, 1, 2, 5, 10, 40}
	if d.IntN(15) == 0 {
		ticks = []int{api.MaxTick - 200, api.MaxTick - 5, api.MaxTick}
	}
	return ticks[d.IntN(len(ticks))]
}

// wantAlike holds a net against the model: all that it tells.
func wantAlike(t *testing.T, n *post.Net, m *model) {
	t.Helper()
	wantAt(t, n, m.tick, len(m.trace))
	if l := n.Transcript(); !slices.EqualFunc(l, m.trace, sameExchange) {
		t.Errorf("transcript: %v, want %v", l, m.trace)
	}
	for i, s := range m.servers {
		wantStore(t, n, i, s.State())
	}
}

// TestP21_2Model: nets with any states and fates, of which all sorts of things are asked.
func TestP21_2Model(t *testing.T) {
	for seed := range uint64(300) {
		d := drawn(seed)
		stores := d.stores()
		fates := d.fates(len(stores))
		n, m := begun(t, stores, fates...), newModel(stores, fates)
		for range 12 {
			if d.IntN(4) == 0 {
				ticks := d.ticks()
				wantWait(t, n, ticks, api.OK)
				m.goOn(ticks)
			}
			batch := d.batch(len(stores), n.Tick())
			wantAsk(t, n, batch, m.ask(batch)...)
		}
		wantAlike(t, n, m)
		if t.Failed() {
			t.Fatalf("seed %d", seed)
		}
	}
}

// TestP21_7Told: each call of a batch has one answer, and is told in the transcript as it was answered.
func TestP21_7Told(t *testing.T) {
	for seed := range uint64(100) {
		d := drawn(1000 + seed)
		stores := d.stores()
		n := begun(t, stores, d.fates(len(stores))...)
		for range 10 {
			made, sent := n.Made(), n.Tick()
			batch := d.batch(len(stores), sent)
			answers, _ := n.Ask(batch)
			trace := n.Transcript()
			if n.Made() != made+len(batch) || len(trace) != n.Made() || len(answers) != len(batch) {
				t.Fatalf("seed %d: %d, %d, %d, %d", seed, made, n.Made(), len(trace), len(answers))
			}
			places := make([]bool, len(batch))
			for _, a := range answers {
				x := trace[made+a.Place]
				if places[a.Place] || x.Number != made+a.Place || x.Server != batch[a.Place].Server || x.Sent != sent || !bytes.Equal(x.Request, batch[a.Place].Bytes) {
					t.Fatalf("seed %d: %v", seed, x)
				}
				if x.Came != a.Came || x.Tick != a.Tick || !bytes.Equal(x.Reply, a.Bytes) {
					t.Fatalf("seed %d: %v, %v", seed, x, a)
				}
				places[a.Place] = true
			}
		}
	}
}

// TestP21_8Ticks: the tick never goes back, and replies come in time.
func TestP21_8Ticks(t *testing.T) {
	for seed := range uint64(100) {
		d := drawn(2000 + seed)
		stores := d.stores()
		n := begun(t, stores, d.fates(len(stores))...)
		for range 10 {
			before := n.Tick()
			n.Wait(d.ticks())
			sent := n.Tick()
			answers, _ := n.Ask(d.batch(len(stores), sent))
			if sent < before || n.Tick() < sent || n.Tick() > sent+api.Patience || n.Tick() > api.MaxTick {
				t.Fatalf("seed %d: %d, %d, %d", seed, before, sent, n.Tick())
			}
			for _, a := range answers {
				if a.Came && a.Tick <= sent && sent < api.MaxTick || a.Tick > n.Tick() || !a.Came && a.Tick != n.Tick() {
					t.Fatalf("seed %d: sent at %d: %v, over at %d", seed, sent, a, n.Tick())
				}
			}
		}
	}
}

// TestP21_9Apart: other servers' stores change neither what a server holds nor what it replies.
func TestP21_9Apart(t *testing.T) {
	for seed := range uint64(100) {
		d := drawn(3000 + seed)
		stores := d.stores()
		fates := d.fates(len(stores))
		other := slices.Clone(stores)
		same := d.IntN(len(stores))
		for i := range other {
			if i != same {
				other[i] = d.store()
			}
		}
		a, b := begun(t, stores, fates...), begun(t, other, fates...)
		for range 8 {
			batch := d.batch(len(stores), a.Tick())
			a.Ask(batch)
			b.Ask(batch)
		}
		told := a.Transcript()
		for i, x := range b.Transcript() {
			if x.Server == same && !sameExchange(x, told[i]) || x.Came != told[i].Came || x.Tick != told[i].Tick {
				t.Fatalf("seed %d: %v, %v", seed, x, told[i])
			}
		}
		s, _ := a.Store(same)
		wantStore(t, b, same, s)
		if t.Failed() {
			t.Fatalf("seed %d", seed)
		}
	}
}

// TestP21_9Alone: what a server holds and replies is what it would, if it alone were asked at these ticks.
func TestP21_9Alone(t *testing.T) {
	for seed := range uint64(100) {
		d := drawn(4000 + seed)
		stores := d.stores()
		fates := make([][]api.Fate, len(stores))
		copy(fates, d.fates(len(stores)))
		n := begun(t, stores, fates...)
		for range 8 {
			n.Wait(d.IntN(4))
			n.Ask(d.batch(len(stores), n.Tick()))
		}
		for i := range stores {
			alone := newModel(stores[i:i+1], fates[i:i+1])
			for _, x := range n.Transcript() {
				if x.Server != i {
					continue
				}
				alone.goOn(x.Sent - alone.tick)
				reply, after := alone.fall(to(0, x.Request))
				if x.Came != (after > 0) || !bytes.Equal(x.Reply, reply) || x.Came && x.Tick != x.Sent+after {
					t.Fatalf("seed %d, server %d: %v, want %v after %d", seed, i, x, reply, after)
				}
			}
			alone.goOn(n.Tick() - alone.tick)
			wantStore(t, n, i, alone.servers[0].State())
		}
		if t.Failed() {
			t.Fatalf("seed %d", seed)
		}
	}
}

// TestP21_10Honest: on an honest net each reply comes, at its tick, and is the server's.
func TestP21_10Honest(t *testing.T) {
	for seed := range uint64(100) {
		d := drawn(5000 + seed)
		stores := d.stores()
		fates := d.fates(len(stores))
		for _, row := range fates {
			for i := range row {
				row[i].Kind, row[i].Delay = api.FateHonest, 1+d.IntN(api.Patience)
			}
		}
		n, m := begun(t, stores, fates...), newModel(stores, fates)
		for range 10 {
			sent := n.Tick()
			batch := d.batch(len(stores), sent)
			replies := make([][]byte, len(batch))
			for i, c := range batch {
				m.tick = sent
				replies[i] = m.do(c.Server, c.Bytes)
			}
			answers, _ := n.Ask(batch)
			for _, a := range answers {
				if !a.Came || !bytes.Equal(a.Bytes, replies[a.Place]) {
					t.Fatalf("seed %d: %v, want %v", seed, a, replies[a.Place])
				}
			}
		}
	}
}
