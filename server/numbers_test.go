package server_test

import (
	"iter"
	"slices"
	"testing"

	"strongroom/api"
	"strongroom/server"
)

// pair is a share number with the number of its bytes.
type pair struct{ number, size int }

func wantNumbers(t *testing.T, got iter.Seq2[int, int], want ...pair) {
	t.Helper()
	if got == nil {
		t.Fatal("no iterator")
	}
	var met []pair
	for n, size := range got {
		met = append(met, pair{n, size})
	}
	if !slices.Equal(met, want) {
		t.Errorf("Numbers: %v instead of %v", met, want)
	}
}

// underX gives what Numbers goes through in the example.
func underX() []pair { return []pair{{0, 0}, {3, 5}, {12, 6}} }

func TestP19_4Numbers(t *testing.T) {
	s, st := example(t)
	wantNumbers(t, s.Numbers(x), underX()...)
	wantNumbers(t, s.Numbers(y), pair{3, 3})
	wantNumbers(t, s.Numbers(z), pair{0, 2})
	wantNumbers(t, s.Numbers(api.Index{}))
	wantNumbers(t, s.Numbers(api.Index{7, 1}))
	wantNumbers(t, begun(t, 0).Numbers(x))
	wantState(t, s, st)
	wantTick(t, s, 5, api.OK)
	wantNumbers(t, s.Numbers(x), underX()[1:]...)
	wantTick(t, s, 8, api.OK)
	wantNumbers(t, s.Numbers(x))
}

func TestP19_4AllNumbers(t *testing.T) {
	s := begun(t, api.MaxRoom)
	var want []pair
	var all []int
	for i := range api.MaxN {
		n := i * 2 % api.MaxN
		wantDo(t, s, 0, store(x, n, string(make([]byte, 1000-n)), 1, 0), only(api.RepStored))
		want = append(want, pair{i, 1000 - i})
		all = append(all, i)
	}
	wantNumbers(t, s.Numbers(x), want...)
	wantDo(t, s, 0, have(x), numbers(all...))
	wantDo(t, s, 0, renew(x, 1, 5), numbers(all...))
	wantDo(t, s, 5, release(x, 1), numbers(all...))
	wantDo(t, s, 5, have(x), numbers())
}

// TestP19_4NumbersAreAsTheyWere: what was there when Numbers was called is gone through, whatever becomes of it.
func TestP19_4NumbersAreAsTheyWere(t *testing.T) {
	s, _ := example(t)
	all, none := s.Numbers(x), s.Numbers(api.Index{1})
	for _, change := range []func(){
		func() {},
		func() { s.Do(3, store(x, 4, "four", 1, 9)) },
		func() { s.Do(3, store(api.Index{1}, 4, "four", 1, 9)) },
		func() { s.Spoil(x, 3, []byte("eerht")) },
		func() { s.Do(3, release(x, 1)) },
		func() { s.Tick(5) },
		func() { s.Do(5, store(x, 12, "other", 1, 9)) },
		func() { s.Tick(api.MaxTick) },
	} {
		var met []pair
		for n, size := range all {
			met = append(met, pair{n, size})
			if len(met) == 1 {
				change()
			}
		}
		if !slices.Equal(met, underX()) {
			t.Error("while it is changed:", met)
		}
		wantNumbers(t, all, underX()...)
		wantNumbers(t, none)
	}
	wantNumbers(t, s.Numbers(x))
}

func TestP19_4NumbersLeftEarly(t *testing.T) {
	s, st := example(t)
	all := s.Numbers(x)
	for n := 1; n <= 3; n++ {
		var met []pair
		for number, size := range all {
			met = append(met, pair{number, size})
			if len(met) == n {
				break
			}
		}
		if !slices.Equal(met, underX()[:n]) {
			t.Error(n, met)
		}
	}
	steps := 0
	for range all {
		steps++
		wantNumbers(t, all, underX()...)
	}
	if steps != 3 {
		t.Error("round another one:", steps)
	}
	wantState(t, s, st)
}

func TestP19_4NumbersInSteps(t *testing.T) {
	s, _ := example(t)
	all := s.Numbers(x)
	one, endOne := iter.Pull2(all)
	other, endOther := iter.Pull2(all)
	defer endOne()
	defer endOther()
	for _, want := range underX() {
		if n, size, is := one(); n != want.number || size != want.size || !is {
			t.Error(n, size, is)
		}
		s.Do(3, release(x, 1))
		if n, size, is := other(); n != want.number || size != want.size || !is {
			t.Error(n, size, is)
		}
	}
	if _, _, is := one(); is {
		t.Error("more than was there")
	}
}

// TestR3 overwrites all that goes into a server and comes out of it: no part of it is the server's.
func TestR3(t *testing.T) {
	s, st := example(t)
	big := append(make([]byte, 0, 64), "a share"...)
	wantDo(t, s, 3, api.Request{Kind: api.ReqStore, Index: x, Number: 20, Lease: lease(1, 9), Bytes: big}, only(api.RepStored))
	wantDo(t, s, 3, api.Request{Kind: api.ReqStore, Index: x, Number: 20, Lease: lease(3, 9), Bytes: big}, only(api.RepStored))
	st.Kept = slices.Insert(st.Kept, 3, share(x, 20, "a share", lease(1, 9), lease(3, 9)))
	wantSpareNoughts(t, big)
	overwrite(big)
	wantState(t, s, st)

	got, _ := s.Do(3, fetch(x, 20, 2, 5))
	overwrite(got.Bytes)
	wantState(t, s, st)
	other := append(make([]byte, 0, 64), "A SHARE"...)
	s.Spoil(x, 20, other)
	wantSpareNoughts(t, other)
	overwrite(other)
	st.Kept[3].Bytes = []byte("A SHARE")
	wantState(t, s, st)
	for _, r := range []api.Request{have(x), renew(x, 2, 3), release(x, 99)} {
		got, _ := s.Do(3, r)
		l := got.Numbers[:cap(got.Numbers)]
		for i := range l {
			l[i] = -1
		}
		wantState(t, s, st)
	}
	wantDo(t, s, 3, have(x), numbers(0, 3, 12, 20))
}

func TestR3Stores(t *testing.T) {
	s, st := example(t)
	told := s.State()
	wantListsApart(t, told)
	overwriteStore(told)
	wantState(t, s, st)

	again := s.State()
	l := loaded(t, again)
	if !sameStore(again, st) {
		t.Error("Load changed its argument", again)
	}
	overwriteStore(again)
	wantState(t, l, st)
	wantState(t, s, st)
	wantDo(t, l, 3, store(x, 3, "three", 3, 9), only(api.RepStored))
	wantTick(t, l, 6, api.OK)
	wantState(t, s, st)
}

// TestR3LoadWithSpareRoom: what stands behind the lists of a store that is loaded stays as it is.
func TestR3LoadWithSpareRoom(t *testing.T) {
	leases := []api.Lease{lease(2, 4), lease(5, 9), lease(7, 9), lease(8, 8)}
	b := []byte("abcdef")
	st := api.Store{Room: 10, Kept: []api.Kept{{Index: x, Number: 1, Bytes: b[:3], Leases: leases[:2]}}}
	s := loaded(t, st)
	wantDo(t, s, 0, store(x, 1, "abc", 3, 9), only(api.RepStored))
	wantDo(t, s, 0, store(x, 1, "abc", 6, 9), only(api.RepStored))
	wantDo(t, s, 0, renew(x, 5, 20), numbers(1))
	wantDo(t, s, 0, release(x, 2), numbers(1))
	if e := s.Spoil(x, 1, []byte("xyz")); e != api.OK {
		t.Error(e)
	}
	wantTick(t, s, 10, api.OK)
	if !slices.Equal(leases, []api.Lease{lease(2, 4), lease(5, 9), lease(7, 9), lease(8, 8)}) || string(b) != "abcdef" {
		t.Error(leases, string(b))
	}
	wantState(t, s, api.Store{Room: 10, Tick: 10, Kept: []api.Kept{share(x, 1, "xyz", lease(5, 20))}})
}

func wantSpareNoughts(t *testing.T, b []byte) {
	t.Helper()
	for _, v := range b[len(b):cap(b)] {
		if v != 0 {
			t.Fatal("the spare room was written to")
		}
	}
}

// overwrite overwrites bytes and their spare room.
func overwrite(b []byte) {
	b = b[:cap(b)]
	for i := range b {
		b[i] ^= 0xff
	}
}

// overwriteStore overwrites all lists of a store, with their spare room.
func overwriteStore(st api.Store) {
	for _, k := range st.Kept {
		overwrite(k.Bytes)
		l := k.Leases[:cap(k.Leases)]
		for i := range l {
			l[i] = lease(77, 77)
		}
	}
	clear(st.Kept[:cap(st.Kept)])
}

// wantListsApart asks that no two lists of a store have memory in common: each is overwritten in its turn, and all others stay.
func wantListsApart(t *testing.T, st api.Store) {
	t.Helper()
	text := func(k api.Kept) string { return string(k.Bytes) }
	for i := range st.Kept {
		var before []string
		var leases [][]api.Lease
		for _, k := range st.Kept {
			before = append(before, text(k))
			leases = append(leases, slices.Clone(k.Leases))
		}
		overwrite(st.Kept[i].Bytes)
		l := st.Kept[i].Leases[:cap(st.Kept[i].Leases)]
		for j := range l {
			l[j].Until++
		}
		for j, k := range st.Kept {
			if j != i && (text(k) != before[j] || !slices.Equal(k.Leases, leases[j])) {
				t.Error("lists in common:", i, j)
			}
		}
	}
}

// TestBigShare: a share of the greatest size, to its last byte.
func TestBigShare(t *testing.T) {
	s, e := server.New(api.MaxShare + 3)
	if e != api.OK {
		t.Fatal(e)
	}
	b := make([]byte, api.MaxShare)
	copy(b[api.MaxShare-3:], "end")
	r := api.Request{Kind: api.ReqStore, Index: x, Number: 254, Lease: lease(1, 1), Bytes: b}
	wantKind := func(r api.Request, want api.RepKind) {
		t.Helper()
		if got, e := s.Do(0, r); got.Kind != want || e != api.OK {
			t.Error(r.Kind, got.Kind, e)
		}
	}
	wantKind(r, api.RepStored)
	wantKind(r, api.RepStored)
	wantDo(t, s, 0, fetch(x, 254, api.MaxShare-3, 3), some("end"))
	wantDo(t, s, 0, fetch(x, 254, api.MaxShare-3, 4), only(api.RepNone))
	wantDo(t, s, 0, fetch(x, 254, api.MaxShare, 1), only(api.RepNone))
	wantDo(t, s, 0, fetch(x, 254, api.MaxShare+1, 1), only(api.RepRefused))
	got, e := s.Do(0, fetch(x, 254, api.MaxShare-api.MaxFetch, api.MaxFetch))
	if e != api.OK || got.Kind != api.RepBytes || len(got.Bytes) != api.MaxFetch || string(got.Bytes[api.MaxFetch-3:]) != "end" {
		t.Error("a fetch of the greatest size", got.Kind, len(got.Bytes), e)
	}
	wantDo(t, s, 0, store(x, 0, "1234", 1, 1), only(api.RepFull))
	wantDo(t, s, 0, store(x, 0, "123", 1, 1), only(api.RepStored))
	if s.Used() != api.MaxShare+3 {
		t.Error(s.Used())
	}
	again := loaded(t, s.State())
	if again.Used() != s.Used() {
		t.Error(again.Used())
	}
	b[5] = 1
	wantKind(r, api.RepOther)
	r.Number, r.Bytes = 1, append(b, 0)
	wantKind(r, api.RepRefused)
}
