package post_test

import (
	"bytes"
	"reflect"
	"slices"
	"testing"

	"strongroom/api"
)

// roomy gives a list with spare room, and a function that tells whether the list or its room was changed.
func roomy(list []byte) ([]byte, func() bool) {
	whole := append(bytes.Clone(list), 201, 202, 203, 204, 205, 206, 207, 208)
	before := bytes.Clone(whole)
	return whole[:len(list)], func() bool { return !bytes.Equal(whole, before) }
}

// spoil overwrites a list and its spare room.
func spoil(b []byte) {
	b = b[:cap(b)]
	for i := range b {
		b[i] = 238
	}
}

func spoilAnswers(l []api.Answer) {
	for i := range l {
		spoil(l[i].Bytes)
	}
	l = l[:cap(l)]
	for i := range l {
		l[i] = api.Answer{Place: 238, Tick: 238, Bytes: []byte{238}}
	}
}

func spoilTrace(l []api.Exchange) {
	for i := range l {
		spoil(l[i].Request)
		spoil(l[i].Reply)
	}
	l = l[:cap(l)]
	for i := range l {
		l[i] = api.Exchange{Number: 238, Request: []byte{238}}
	}
}

// TestR3New: a net keeps no part of the stores and fates of which it is made, and does not change them.
func TestR3New(t *testing.T) {
	held, turned := roomy([]byte("ab"))
	told, bent := roomy([]byte{6})
	leases := []api.Lease{{Who: 1, Until: 50}, {Who: 9, Until: 9}, {Who: 9, Until: 9}}
	kept := []api.Kept{{Index: x, Number: 2, Bytes: held, Leases: leases[:1]}, {Number: 99}}
	stores := []api.Store{{Room: 9, Kept: kept[:1]}, {Room: 99}}
	row := []api.Fate{lie(1, told...), lie(9, 9)}
	row[0].Bytes = told
	fates := [][]api.Fate{row[:1], {lie(9, 9)}}
	n := begun(t, stores[:1], fates[:1]...)
	if turned() || bent() || leases[1].Who != 9 || kept[1].Number != 99 || stores[1].Room != 99 || row[1].Delay != 9 || len(fates[1]) != 1 {
		t.Error("New changed an argument")
	}
	spoil(held)
	spoil(told)
	leases[0], kept[0], stores[0], row[0], fates[0] = api.Lease{}, api.Kept{}, api.Store{}, drop(1), nil
	wantStore(t, n, 0, api.Store{Room: 9, Kept: []api.Kept{share(x, 2, "ab", 50)}})
	wantAsk(t, n, []api.Call{to(0, have(x)), to(0, have(x))}, came(0, 1, 6), came(1, 1, 1, 1, 2))
}

// TestR3OneListTwice: lists that are one in the arguments are not one in the answers.
func TestR3OneListTwice(t *testing.T) {
	b := []byte{1, 2, 3}
	f := lie(1, b...)
	f.Bytes = b
	n := begun(t, rooms(9, 9), []api.Fate{f, f}, []api.Fate{f})
	q := have(x)
	answers, _ := n.Ask([]api.Call{to(0, q), to(0, q), to(1, q), to(1, q), to(1, q)})
	for i := range answers {
		spoil(answers[i].Bytes)
		for j := i + 1; j < len(answers); j++ {
			if slices.Contains(answers[j].Bytes, 238) {
				t.Errorf("%d and %d have a part in common", i, j)
			}
		}
	}
	trace := n.Transcript()
	for i := range trace {
		if !bytes.Equal(trace[i].Request, q) || slices.Contains(trace[i].Reply, 238) {
			t.Errorf("%d: %v", i, trace[i])
		}
		spoil(trace[i].Request)
		spoil(trace[i].Reply)
	}
	if !bytes.Equal(b, []byte{1, 2, 3}) || !bytes.Equal(q, have(x)) {
		t.Error("an argument was changed")
	}
}

// TestR3Ask: a batch stays as it is, and no part of it is kept.
func TestR3Ask(t *testing.T) {
	for _, fate := range []api.Fate{honest(1), lie(1, 6), drop(1), lose(1)} {
		n := begun(t, rooms(9), []api.Fate{fate})
		request := store(x, 2, "ab", 1, 50)
		b, changed := roomy(request)
		batch := []api.Call{to(0, b), to(5, []byte{5})}
		before, _ := n.Ask(batch[:1])
		if changed() || !reflect.DeepEqual(batch, []api.Call{to(0, request), to(5, []byte{5})}) {
			t.Error("a batch was changed")
		}
		told, held := n.Transcript(), mustStore(t, n)
		spoilAnswers(before)
		if changed() {
			t.Error("an answer has a part in the batch")
		}
		spoil(b)
		batch[0] = to(0, nil)
		if l := n.Transcript(); !slices.EqualFunc(l, told, sameExchange) || !bytes.Equal(l[0].Request, request) {
			t.Errorf("the transcript has a part in the batch or in an answer: %v", l)
		}
		wantStore(t, n, 0, held)
	}
}

func TestR3AskRefused(t *testing.T) {
	n := begun(t, rooms(9))
	b, changed := roomy(have(x))
	batch := []api.Call{to(0, b), to(1, b), to(0, nil)}
	wantRefused(t, n, batch[:2], api.ErrArg)
	if changed() || len(batch) != 3 || batch[2].Bytes != nil || batch[1].Server != 1 {
		t.Error("a refusal changed its argument")
	}
}

func mustStore(t *testing.T, n interface {
	Store(int) (api.Store, api.Errno)
}) api.Store {
	t.Helper()
	s, e := n.Store(0)
	if e != api.OK {
		t.Fatal(e)
	}
	return s
}

func TestR3Transcript(t *testing.T) {
	n := example(t)
	n.Ask([]api.Call{to(0, have(x)), to(1, have(x)), to(0, []byte{9})})
	want := []api.Exchange{
		{Number: 0, Server: 0, Request: have(x), Came: true, Tick: 3, Reply: []byte{1, 0}},
		{Number: 1, Server: 1, Request: have(x), Tick: 10},
		{Number: 2, Server: 0, Request: []byte{9}, Came: true, Tick: 1, Reply: []byte{6}},
	}
	spoilTrace(n.Transcript())
	if l := n.Transcript(); !slices.EqualFunc(l, want, sameExchange) {
		t.Errorf("%v, want %v", l, want)
	}
	wantAsk(t, n, []api.Call{to(0, []byte{9})}, came(0, 11, 7))
	if l := n.Transcript(); !slices.EqualFunc(l[:3], want, sameExchange) || len(l) != 4 {
		t.Errorf("%v, want %v", l, want)
	}
}

func TestR3StoreAndSpoil(t *testing.T) {
	n := begun(t, []api.Store{{Room: 9, Kept: []api.Kept{share(x, 2, "ab", 50)}}})
	b, changed := roomy([]byte("cd"))
	if e := n.Spoil(0, x, 2, b); e != api.OK || changed() {
		t.Error(e)
	}
	spoil(b)
	want := api.Store{Room: 9, Kept: []api.Kept{share(x, 2, "cd", 50)}}
	s := mustStore(t, n)
	spoil(s.Kept[0].Bytes)
	s.Kept[0].Leases[0] = api.Lease{}
	s.Kept[0].Number = 9
	wantStore(t, n, 0, want)
	answers, _ := n.Ask([]api.Call{to(0, fetch(x, 2, 0, 2))})
	spoilAnswers(answers)
	want.Tick = 1
	wantStore(t, n, 0, want)
}
