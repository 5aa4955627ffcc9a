package put_test

import (
	"bytes"
	"slices"
	"testing"

	"strongroom/api"
	"strongroom/put"
)

// roomy gives a list with spare room, and tells later whether it or its room was changed.
func roomy(list []byte) ([]byte, func() bool) {
	whole := append(bytes.Clone(list), 201, 202, 203, 204)
	before := bytes.Clone(whole)
	return whole[:len(list)], func() bool { return !bytes.Equal(whole, before) }
}

// spoil overwrites a list and its spare room.
func spoil(b []byte) {
	b = b[:cap(b)]
	for i := range b {
		b[i] ^= 0x5a
	}
}

// TestR3Put: neither the file nor the secret is changed or kept, and no answer has a part in either.
func TestR3Put(t *testing.T) {
	for _, size := range []int{0, 1, 32, 33, 200} {
		for _, room := range []int{0, 1 << 20} {
			file, changed := roomy(filled(size))
			secret, turned := roomy([]byte("secret"))
			p := api.Params{K: 2, N: 4, Seg: 40, Happy: 1, Secret: secret}
			n := begun(t, rooms(room, room, room))
			s, e := put.Put(n, file, p, lease(1, 500))
			if changed() || turned() {
				t.Errorf("%d bytes, %d: an argument was changed", size, e)
			}
			before := n.Transcript()
			want := api.Stored{Cap: s.Cap, Placed: slices.Clone(s.Placed)}
			want.Cap.Lit = bytes.Clone(s.Cap.Lit)
			spoil(file)
			spoil(secret)
			if !sameStored(s, want) {
				t.Errorf("%d bytes, %d: the answer has a part in an argument", size, e)
			}
			for i, c := range n.Transcript() {
				if !bytes.Equal(c.Request, before[i].Request) {
					t.Errorf("%d bytes, %d: the net has a part in an argument", size, e)
				}
			}
			spoil(file)
			spoil(s.Cap.Lit)
			spoil(secret)
			if changed() || turned() {
				t.Errorf("%d bytes, %d: an argument has a part in the answer", size, e)
			}
		}
	}
}

// TestR3Place: shares and tries stay as they are, and what is answered has no part in them.
func TestR3Place(t *testing.T) {
	share, changed := roomy([]byte{1, 2, 3})
	shares := [][]byte{share, {7}, share, {99}}
	servers := []int{1, 0, 2, 77}
	tries := []api.Try{try(2, servers[:3]...), try(0, servers[:3]...), try(1, servers[1:2]...), try(-5, 9)}
	want := []api.Try{try(2, 1, 0, 2), try(0, 1, 0, 2), try(1, 0), try(-5, 9)}
	n := begun(t, rooms(0, 3, 3))
	placed, lacking, e := put.Place(n, x, shares[:3], tries[:3], lease(1, 50))
	if e != api.OK || !slices.Equal(placed, []api.Pair{on(1, 2), on(2, 0)}) || !slices.Equal(lacking, []int{1}) {
		t.Errorf("%v, %v, %d", placed, lacking, e)
	}
	placed = append(placed[:cap(placed)][:0], on(9, 9))
	lacking = append(lacking[:cap(lacking)][:0], 9)
	if changed() || !slices.EqualFunc(tries, want, sameTry) || !slices.Equal(servers, []int{1, 0, 2, 77}) || len(shares) != 4 || !slices.Equal(shares[3], []byte{99}) {
		t.Errorf("an argument was changed: %v, %v, %v", shares, tries, servers)
	}
	held, _ := n.Store(1)
	spoil(share)
	tries[0].Number, servers[0] = 0, 2
	if s, _ := n.Store(1); len(s.Kept) != 1 || !bytes.Equal(s.Kept[0].Bytes, held.Kept[0].Bytes) {
		t.Errorf("a server has a part in an argument: %v", s)
	}
}

// TestR3PlaceRefused: a refusal leaves its arguments as they are, too.
func TestR3PlaceRefused(t *testing.T) {
	share, changed := roomy([]byte{1, 2, 3})
	shares, n := [][]byte{share, share, share, share}, begun(t, rooms(9, 9, 9))
	for i, bad := range badTries() {
		wantNotPlaced(t, n, shares, bad, lease(1, 50), api.ErrTries)
		if !slices.EqualFunc(bad, badTries()[i], sameTry) || changed() {
			t.Errorf("%v, %v", bad, share)
		}
	}
}

// TestR3Release: the list of servers stays as it is.
func TestR3Release(t *testing.T) {
	servers := []int{1, 0, 1, 55}
	n := begun(t, rooms(9, 9))
	put.Release(n, x, servers[:3], 1)
	put.Release(n, x, servers, 1)
	if !slices.Equal(servers, []int{1, 0, 1, 55}) || n.Made() != 3 {
		t.Errorf("%v, %d calls", servers, n.Made())
	}
}

// TestR3PlacedTwice: what two puts answer is not one memory.
func TestR3PlacedTwice(t *testing.T) {
	file, p := example(2)
	n := begun(t, roomyServers(3))
	a, _ := put.Put(n, file, p, lease(1, 500))
	want := slices.Clone(a.Placed)
	b, _ := put.Put(n, file, p, lease(1, 500))
	for i := range b.Placed {
		b.Placed[i] = on(9, 9)
	}
	if !slices.Equal(a.Placed, want) {
		t.Errorf("%v, want %v", a.Placed, want)
	}
}
