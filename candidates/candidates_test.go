package candidates_test

import (
	"bytes"
	"slices"
	"testing"

	"strongroom/api"
	"strongroom/candidates"
	"strongroom/post"
	"strongroom/ring"
)

// fake is a net of which is said what each server replies; nothing comes where nothing is said, or where it is lost. It answers the last call first.
type fake struct {
	servers int
	replies map[int][]byte
	lost    []int
	refuses api.Errno
	batches [][]api.Call
}

func (f *fake) Servers() int { return f.servers }

func (f *fake) Ask(batch []api.Call) ([]api.Answer, api.Errno) {
	f.batches = append(f.batches, batch)
	if f.refuses != api.OK {
		return nil, f.refuses
	}
	var answers []api.Answer
	for i, call := range slices.Backward(batch) {
		b, came := f.replies[call.Server]
		answers = append(answers, api.Answer{Place: i, Came: came && !slices.Contains(f.lost, call.Server), Bytes: b})
	}
	return answers, api.OK
}

// any index will do.
var x = api.Index{3, 1, 4, 1, 5}

func wantFound(t *testing.T, what string, f *fake, n int, want []api.Pair, silent []int, wanted api.Errno) {
	t.Helper()
	pairs, mute, e := candidates.Find(f, x, n)
	if e != wanted || !slices.Equal(pairs, want) || !slices.Equal(mute, silent) {
		t.Errorf("%s: %v, %v, %d, want %v, %v, %d", what, pairs, mute, e, want, silent, wanted)
	}
}

// numbers gives the reply that tells numbers.
func numbers(l ...byte) []byte { return append([]byte{1, byte(len(l))}, l...) }

// TestFind: all servers are asked once, in the order of the ring, and the pairs stand in it, whatever the order of the answers.
func TestFind(t *testing.T) {
	for servers := 1; servers <= api.MaxServers; servers++ {
		f := &fake{servers: servers, replies: map[int][]byte{}}
		order, _ := ring.Order(x, servers)
		var want []api.Pair
		for i, s := range order {
			f.replies[s] = numbers(0, 4, 5, 254)
			if i%3 == 1 {
				f.replies[s] = numbers()
				continue
			}
			want = append(want, api.Pair{Server: s}, api.Pair{Server: s, Number: 4})
		}
		wantFound(t, "Find", f, 5, want, nil, api.OK)
		if len(f.batches) != 1 || len(f.batches[0]) != servers {
			t.Fatalf("%d servers: %v", servers, f.batches)
		}
		for i, c := range f.batches[0] {
			if c.Server != order[i] || !bytes.Equal(c.Bytes, append([]byte{1}, x[:]...)) {
				t.Errorf("%d servers, call %d: %v", servers, i, c)
			}
		}
	}
}

// TestFindSilent: who replies nothing, or something else than numbers in their one form, does not tell; who tells none does.
func TestFindSilent(t *testing.T) {
	said := [][]byte{{}, {2}, {3}, {4}, {5, 0, 0, 0, 1, 0}, {6}, {7}, {0}, {1}, {1, 1}, {1, 2, 0}, {1, 1, 0, 0}, {1, 2, 1, 0}, {1, 2, 1, 1}, {1, 1, 255}}
	f := &fake{servers: len(said) + 3, replies: map[int][]byte{}}
	var silent []int
	for s, b := range said {
		f.replies[s] = b
		silent = append(silent, s)
	}
	last := len(said)
	f.replies[last+1] = numbers(7)
	f.replies[last+2] = numbers()
	wantFound(t, "not told", f, 9, []api.Pair{{Server: last + 1, Number: 7}}, append(silent, last), api.OK)
	wantFound(t, "all passed over", f, 7, nil, append(silent, last), api.OK)
	f.lost = []int{last + 1}
	wantFound(t, "lost", f, 9, nil, append(silent, last, last+1), api.OK)
}

func TestFindNobody(t *testing.T) {
	f := &fake{}
	wantFound(t, "no servers", f, 9, nil, nil, api.OK)
	f.servers = 33
	wantFound(t, "too many servers", f, 9, nil, nil, api.ErrArg)
	if len(f.batches) != 0 {
		t.Errorf("asked: %v", f.batches)
	}
	f = &fake{servers: 3, refuses: api.ErrTrace, replies: map[int][]byte{0: numbers(1)}}
	wantFound(t, "refused", f, 9, nil, nil, api.ErrTrace)
}

// TestFindNet: a net can be asked as it is.
func TestFindNet(t *testing.T) {
	k := api.Kept{Index: x, Number: 2, Bytes: []byte{1}, Leases: []api.Lease{{Until: 9}}}
	n, _ := post.New([]api.Store{{Room: 9, Kept: []api.Kept{k}}, {Room: 9}}, [][]api.Fate{nil, {{Kind: api.FateDrop}}})
	pairs, silent, e := candidates.Find(n, x, 3)
	if e != api.OK || !slices.Equal(pairs, []api.Pair{{Number: 2}}) || !slices.Equal(silent, []int{1}) {
		t.Errorf("%v, %v, %d", pairs, silent, e)
	}
}
