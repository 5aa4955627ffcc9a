package wire_test

import (
	"bytes"
	"math/rand"
	"slices"
	"testing"

	"strongroom/api"
	"strongroom/server"
	"strongroom/wire"
)

// span is a field as the document's tables have it: how many bytes, and from where to where it may go.
type span struct {
	wide   int
	lo, hi uint64
}

// numberAt gives the number that stands at a place.
func numberAt(b []byte, at, wide int) uint64 {
	var n uint64
	for _, c := range b[at : at+wide] {
		n = n<<8 | uint64(c)
	}
	return n
}

// spans gives the fields of a kind of request ahead of Bytes, the kind and the index being one.
func spans(kind byte) []span {
	front, number, who, until := span{17, 0, 0}, span{1, 0, 254}, span{4, 0, 1<<32 - 1}, span{8, 0, 1 << 40}
	return map[byte][]span{
		1: {front},
		2: {front, number, who, until, {4, 0, 1 << 25}},
		3: {front, number, {4, 0, 1 << 25}, {4, 1, 1 << 17}},
		4: {front, who, until},
		5: {front, who},
	}[kind]
}

// faultOf gives the place at which bytes with these fields are at fault, the last of them being the number of Bytes, if they have such.
func faultOf(b []byte, fields []span, hasBytes bool) (int, bool) {
	ahead := 0
	for _, f := range fields {
		ahead += f.wide
	}
	if len(b) < ahead {
		return len(b), true
	}
	at, last := 0, uint64(0)
	for i, f := range fields {
		if i > 0 {
			last = numberAt(b, at, f.wide)
			if last < f.lo || last > f.hi {
				return at, true
			}
		}
		at += f.wide
	}
	end := ahead
	if hasBytes {
		end += int(last)
	}
	return min(len(b), end), len(b) != end
}

func requestFault(b []byte) (int, bool) {
	if len(b) == 0 || b[0] < 1 || b[0] > 5 {
		return 0, true
	}
	return faultOf(b, spans(b[0]), b[0] == 2)
}

func replyFault(b []byte) (int, bool) {
	if len(b) == 0 || b[0] < 1 || b[0] > 7 {
		return 0, true
	}
	switch b[0] {
	case 1:
		return numbersFault(b)
	case 5:
		return faultOf(b, []span{{1, 0, 0}, {4, 1, 1 << 17}}, true)
	}
	return faultOf(b, []span{{1, 0, 0}}, false)
}

func numbersFault(b []byte) (int, bool) {
	if len(b) < 2 {
		return len(b), true
	}
	end := 2 + int(b[1])
	for i := 2; i < min(end, len(b)); i++ {
		if b[i] == 255 || i > 2 && b[i] <= b[i-1] {
			return i, true
		}
	}
	return min(len(b), end), len(b) != end
}

// checkRequest holds what Request answers against the document's words; what it takes must be put as the same bytes.
func checkRequest(t *testing.T, b []byte) {
	t.Helper()
	place, fault := requestFault(b)
	if fault {
		wantNoRequest(t, "bytes", b, place)
		return
	}
	r, at, e := wire.Request(b)
	if at != 0 || e != api.OK || !server.May(r) {
		t.Fatalf("%x: %v, %d, %d", b, r, at, e)
	}
	if again, e := wire.PutRequest(r); e != api.OK || !bytes.Equal(again, b) {
		t.Fatalf("%x: put again it is %x, %d", b, again, e)
	}
}

func checkReply(t *testing.T, b []byte) {
	t.Helper()
	place, fault := replyFault(b)
	if fault {
		wantNoReply(t, "bytes", b, place)
		return
	}
	r, at, e := wire.Reply(b)
	if at != 0 || e != api.OK {
		t.Fatalf("%.40x: kind %d, %d, %d", b, r.Kind, at, e)
	}
	if again, e := wire.PutReply(r); e != api.OK || !bytes.Equal(again, b) {
		t.Fatalf("%.40x: put again it is %.40x, %d", b, again, e)
	}
}

func TestP20_4RequestsThereAndBack(t *testing.T) {
	check := func(r api.Request) {
		b, e := wire.PutRequest(r)
		if e != api.OK {
			t.Fatalf("%v: %d", r, e)
		}
		wantRequest(t, b, r)
	}
	for _, w := range requests() {
		check(w.request)
	}
	eachOdd(func(_ string, r api.Request, may bool) {
		if may {
			check(r)
		}
	})
	for n := range api.MaxN {
		check(store(x, n, uint32(n)<<24|7, 1<<(n%41), counted(n)...))
		check(fetch(x, n, 1<<(n%26), 1<<(n%18)))
	}
	random := rand.New(rand.NewSource(20))
	for range 2000 {
		check(someRequest(random))
	}
}

func TestP20_4RepliesThereAndBack(t *testing.T) {
	check := func(r api.Reply) {
		b, e := wire.PutReply(r)
		if e != api.OK {
			t.Fatalf("kind %d: %d", r.Kind, e)
		}
		if len(b) > api.MaxReply {
			t.Fatalf("kind %d: %d bytes, that are not heard", r.Kind, len(b))
		}
		wantReply(t, b, r)
	}
	for _, w := range replies() {
		check(w.reply)
	}
	random := rand.New(rand.NewSource(21))
	for range 2000 {
		check(someReply(random))
	}
}

func someRequest(r *rand.Rand) api.Request {
	var i api.Index
	r.Read(i[:])
	number, who, until := r.Intn(api.MaxN), r.Uint32(), r.Intn(api.MaxTick+1)
	switch r.Intn(5) {
	case 0:
		return store(i, number, who, until, counted(r.Intn(300))...)
	case 1:
		return fetch(i, number, r.Intn(api.MaxShare+1), 1+r.Intn(api.MaxFetch))
	case 2:
		return renew(i, who, until)
	case 3:
		return release(i, who)
	}
	return have(i)
}

func someReply(r *rand.Rand) api.Reply {
	switch kind := api.RepKind(1 + r.Intn(7)); kind {
	case api.RepNumbers:
		l := r.Perm(api.MaxN)[:r.Intn(api.MaxN+1)]
		slices.Sort(l)
		return numbers(l...)
	case api.RepBytes:
		return some(counted(1 + r.Intn(300))...)
	default:
		return only(kind)
	}
}

// bent changes bytes here and there, cuts them off or makes them longer.
func bent(r *rand.Rand, b []byte) []byte {
	b = bytes.Clone(b)
	for range r.Intn(3) {
		edges := []byte{0, 1, 2, 127, 128, 254, 255, byte(r.Intn(256))}
		b[r.Intn(len(b))] = edges[r.Intn(len(edges))]
	}
	switch r.Intn(4) {
	case 0:
		b = b[:r.Intn(len(b)+1)]
	case 1:
		b = append(b, counted(r.Intn(20))...)
	}
	return b
}

// TestP20_2and4Bent: whatever is done to the bytes of requests and replies, the answer is the document's.
func TestP20_2and4Bent(t *testing.T) {
	random := rand.New(rand.NewSource(22))
	for range 100000 {
		q, _ := wire.PutRequest(someRequest(random))
		checkRequest(t, bent(random, q))
		r, _ := wire.PutReply(someReply(random))
		checkReply(t, bent(random, r))
	}
}

// TestP20_2and4EveryByte: each byte of each request and reply takes all values.
func TestP20_2and4EveryByte(t *testing.T) {
	for _, w := range requests() {
		b := unhex(w.hex)
		for i := range min(len(b), 60) {
			for c := range 256 {
				odd := bytes.Clone(b)
				odd[i] = byte(c)
				checkRequest(t, odd)
			}
		}
	}
	for _, w := range replies() {
		b := unhex(w.hex)
		for i := range min(len(b), 300) {
			for c := 0; c < 256 && len(b) < 1000; c++ {
				odd := bytes.Clone(b)
				odd[i] = byte(c)
				checkReply(t, odd)
			}
		}
	}
}

// TestP20_2and4ShortReplies goes through all replies of at most two bytes, and all with up to four numbers said of which two are there.
func TestP20_2and4ShortReplies(t *testing.T) {
	for a := range 256 {
		checkReply(t, []byte{byte(a)})
		checkRequest(t, []byte{byte(a)})
		for b := range 256 {
			checkReply(t, []byte{byte(a), byte(b)})
			checkRequest(t, []byte{byte(a), byte(b)})
			for n := range 5 {
				checkReply(t, []byte{1, byte(n), byte(a), byte(b)})
			}
		}
	}
}

// TestP20_4Unlike: two unlike requests have unlike bytes, and so have two unlike replies.
func TestP20_4Unlike(t *testing.T) {
	seen := map[string]api.Request{}
	eachOdd(func(what string, r api.Request, may bool) {
		b, _ := wire.PutRequest(r)
		if other, is := seen[string(b)]; may && is && !sameRequest(other, r) {
			t.Errorf("%s: %v and %v have the same bytes", what, other, r)
		}
		if may {
			seen[string(b)] = r
		}
	})
	random := rand.New(rand.NewSource(23))
	heard := map[string]api.Reply{}
	for range 3000 {
		r := someReply(random)
		b, _ := wire.PutReply(r)
		if other, is := heard[string(b)]; is && !sameReply(other, r) {
			t.Errorf("%v and %v have the same bytes", other, r)
		}
		heard[string(b)] = r
	}
}

// TestServerSpeaks: what a server replies may be, and fits what it was asked.
func TestServerSpeaks(t *testing.T) {
	s, _ := server.New(1000)
	for _, q := range []api.Request{
		have(x), store(x, 3, 1, 9, 1, 2, 3), store(x, 3, 1, 9, 1, 2, 4), store(x, 4, 1, 9, counted(1000)...), store(x, 0, 2, 9), have(x),
		fetch(x, 3, 1, 2), fetch(x, 3, 1, 3), fetch(x, 9, 0, 1), renew(x, 1, 8), release(x, 1), release(x, 1), store(x, 3, 1, 0, 1),
	} {
		b, e := wire.PutRequest(q)
		asked, _, f := wire.Request(b)
		r, g := s.Do(1, asked)
		if e != api.OK || f != api.OK || g != api.OK || !wire.Fits(q, r) {
			t.Errorf("%v: %v, %d, %d, %d", q, r, e, f, g)
		}
		c, e := wire.PutReply(r)
		if e != api.OK {
			t.Errorf("%v: %d", r, e)
		}
		wantReply(t, c, r)
	}
}
