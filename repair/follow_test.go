package repair_test

import (
	"bytes"
	"slices"
	"testing"

	"strongroom/api"
)

// said gives the numbers that a reply tells, and whether it is one of that kind.
func said(reply []byte) ([]byte, bool) {
	if len(reply) < 2 || reply[0] != 1 || len(reply) != 2+int(reply[1]) {
		return nil, false
	}
	l := reply[2:]
	for i, number := range l {
		if number > 254 || i > 0 && number <= l[i-1] {
			return nil, false
		}
	}
	return l, true
}

// follower goes along a list of exchanges by the chapters' words, call by call.
type follower struct {
	truth
	servers int
	trace   []api.Exchange
	batches []int // how many calls each had
	used    int
	fits    bool
}

// ask makes a batch of calls, if it has any; what came, nil where nothing did.
func (f *follower) ask(pairs []api.Pair, request func(p api.Pair) []byte) [][]byte {
	replies := make([][]byte, len(pairs))
	for i, p := range pairs {
		if f.used == len(f.trace) || f.trace[f.used].Server != p.Server || !bytes.Equal(f.trace[f.used].Request, request(p)) {
			f.fits = false
			break
		}
		if x := f.trace[f.used]; x.Came {
			replies[i] = append([]byte{}, x.Reply...)
		}
		f.used++
	}
	if len(pairs) > 0 {
		f.batches = append(f.batches, len(pairs))
	}
	return replies
}

// held gives those of pairs whose reply brings what it must.
func held(pairs []api.Pair, replies [][]byte, must func(p api.Pair) []byte) []api.Pair {
	var l []api.Pair
	for i, p := range pairs {
		if bytes.Equal(replies[i], brought(must(p))) {
			l = append(l, p)
		}
	}
	return l
}

// check goes along a check; the pairs that are good, and those that are bad.
func (f *follower) check() (good, bad []api.Pair) {
	var asked, all []api.Pair
	for _, s := range orderOf(f.v.Index, f.servers) {
		asked = append(asked, on(s, 0))
	}
	for i, reply := range f.ask(asked, func(api.Pair) []byte { return have(f.v.Index) }) {
		l, _ := said(reply)
		for _, number := range l {
			if int(number) < f.four[1] {
				all = append(all, on(asked[i].Server, int(number)))
			}
		}
	}
	good = held(all, f.ask(all, func(p api.Pair) []byte { return f.frontFetch(p.Number) }), func(p api.Pair) []byte { return f.front(p.Number) })
	for j := range f.four.segs() {
		replies := f.ask(good, func(p api.Pair) []byte { return f.blockFetch(p.Number, j) })
		good = held(good, replies, func(p api.Pair) []byte { return f.block(p.Number, j) })
	}
	for _, p := range all {
		if !slices.Contains(good, p) {
			bad = append(bad, p)
		}
	}
	return good, bad
}

// planned gives the tries by the words of P28.1.
func planned(v api.Verify, servers int, good, bad []api.Pair) []api.Try {
	order := orderOf(v.Index, servers)
	var tries []api.Try
	for i := range v.N {
		if slices.ContainsFunc(good, func(p api.Pair) bool { return p.Number == i }) {
			continue
		}
		t := api.Try{Number: i}
		for j := range servers {
			if s := order[(i+j)%servers]; !slices.Contains(bad, on(s, i)) {
				t.Servers = append(t.Servers, s)
			}
		}
		tries = append(tries, t)
	}
	return tries
}

// place goes along the rounds in which shares are stored; the pairs that are, and the numbers that are not.
func (f *follower) place(tries []api.Try, l api.Lease) (stored []api.Pair, lacks []int) {
	lies := map[int]int{}
	for r := range f.servers {
		var round []api.Pair
		for _, t := range tries {
			if _, is := lies[t.Number]; !is && r < len(t.Servers) {
				round = append(round, on(t.Servers[r], t.Number))
			}
		}
		for i, reply := range f.ask(round, func(p api.Pair) []byte { return storing(f.v.Index, p.Number, l, f.shares[p.Number]) }) {
			if bytes.Equal(reply, []byte{repStored}) {
				lies[round[i].Number] = round[i].Server
			}
		}
	}
	for _, t := range tries {
		if s, is := lies[t.Number]; is {
			stored = append(stored, on(s, t.Number))
		} else {
			lacks = append(lacks, t.Number)
		}
	}
	return stored, lacks
}

// numbersOf tells how many numbers pairs have.
func numbersOf(pairs []api.Pair) int {
	has := map[int]bool{}
	for _, p := range pairs {
		has[p.Number] = true
	}
	return len(has)
}

// repair goes along a repair, by the words of P28.2; what it comes to.
func (f *follower) repair(l api.Lease) (api.Repaired, api.Errno) {
	good, bad := f.check()
	r := api.Repaired{Good: good}
	switch numbers := numbersOf(good); {
	case numbers < f.four[0]:
		return r, api.ErrFew
	case numbers == f.four[1]:
		return r, api.OK
	case !f.file:
		return r, api.ErrWrong
	}
	r.Stored, r.Lacks = f.place(planned(f.v, f.servers, good, bad), l)
	if len(r.Lacks) > 0 {
		return r, api.ErrLacks
	}
	return r, api.OK
}

// wantBatches: each batch was sent at one tick, and each behind the one ahead of it.
func wantBatches(t *testing.T, trace []api.Exchange, batches []int) {
	t.Helper()
	sent := -1
	for _, calls := range batches {
		if trace[0].Sent <= sent {
			t.Errorf("a batch at %d, one ahead of it at %d", trace[0].Sent, sent)
		}
		sent = trace[0].Sent
		for _, x := range trace[:calls] {
			if x.Sent != sent {
				t.Errorf("a call at %d in a batch at %d", x.Sent, sent)
			}
		}
		trace = trace[calls:]
	}
}

// wantFollowed holds a repair against the words, along its calls.
func wantFollowed(t *testing.T, what string, w truth, servers int, l api.Lease, trace []api.Exchange, r api.Repaired, e api.Errno) {
	t.Helper()
	f := &follower{truth: w, servers: servers, trace: trace, fits: true}
	want, wanted := f.repair(l)
	if !f.fits || f.used != len(trace) {
		t.Errorf("%s: of %d calls not all fit", what, len(trace))
		return
	}
	wantRepaired(t, what, r, e, want, wanted)
	wantBatches(t, trace, f.batches)
	if len(trace) > w.most(servers) {
		t.Errorf("%s: %d calls, at most %d", what, len(trace), w.most(servers))
	}
}
