package wire_test

import (
	"bytes"
	"encoding/hex"
	"math"
	"slices"
	"strings"
	"testing"

	"strongroom/api"
	"strongroom/server"
	"strongroom/wire"
)

// ones is the index of the document's examples.
var ones = api.Index{1, 1, 1, 1, 1, 1, 1, 1, 1, 1, 1, 1, 1, 1, 1, 1}

// x is an index whose bytes are all unlike, so that none can be taken for another.
var x = api.Index{0xa0, 0xa1, 0xa2, 0xa3, 0xa4, 0xa5, 0xa6, 0xa7, 0xa8, 0xa9, 0xaa, 0xab, 0xac, 0xad, 0xae, 0xaf}

const (
	onesHex = "01010101010101010101010101010101"
	xHex    = "a0a1a2a3a4a5a6a7a8a9aaabacadaeaf"
)

func have(i api.Index) api.Request { return api.Request{Kind: api.ReqHave, Index: i} }

func store(i api.Index, number int, who uint32, until int, b ...byte) api.Request {
	return api.Request{Kind: api.ReqStore, Index: i, Number: number, Lease: api.Lease{Who: who, Until: until}, Bytes: b}
}

func fetch(i api.Index, number, at, n int) api.Request {
	return api.Request{Kind: api.ReqFetch, Index: i, Number: number, At: at, Len: n}
}

func renew(i api.Index, who uint32, until int) api.Request {
	return api.Request{Kind: api.ReqRenew, Index: i, Lease: api.Lease{Who: who, Until: until}}
}

func release(i api.Index, who uint32) api.Request {
	return api.Request{Kind: api.ReqRelease, Index: i, Lease: api.Lease{Who: who}}
}

func numbers(l ...int) api.Reply { return api.Reply{Kind: api.RepNumbers, Numbers: l} }

func some(b ...byte) api.Reply { return api.Reply{Kind: api.RepBytes, Bytes: b} }

func only(k api.RepKind) api.Reply { return api.Reply{Kind: k} }

// unhex gives bytes that are written as hexadecimal digits, with blanks between them.
func unhex(s string) []byte {
	b, err := hex.DecodeString(strings.ReplaceAll(s, " ", ""))
	if err != nil {
		panic(err)
	}
	return b
}

// counted gives n bytes that do not come again at once.
func counted(n int) []byte {
	b := make([]byte, n)
	for i := range b {
		b[i] = byte(i*7 + i/251)
	}
	return b
}

func allNumbers() []int {
	var l []int
	for n := range api.MaxN {
		l = append(l, n)
	}
	return l
}

func sameRequest(a, b api.Request) bool {
	same := a.Kind == b.Kind && a.Index == b.Index && a.Number == b.Number && a.At == b.At && a.Len == b.Len
	return same && a.Lease == b.Lease && bytes.Equal(a.Bytes, b.Bytes)
}

func sameReply(a, b api.Reply) bool {
	return a.Kind == b.Kind && slices.Equal(a.Numbers, b.Numbers) && bytes.Equal(a.Bytes, b.Bytes)
}

// written is a request with its bytes.
type written struct {
	request api.Request
	hex     string
}

// requests gives the requests of the document's examples, and those at the edges of what may be.
func requests() []written {
	return []written{
		{have(ones), "01" + onesHex},
		{fetch(ones, 2, 300, 5), "03" + onesHex + "02 0000012c 00000005"},
		{store(ones, 0, 7, 9, 0xaa), "02" + onesHex + "00 00000007 0000000000000009 00000001 aa"},
		{have(x), "01" + xHex},
		{have(api.Index{}), "01" + strings.Repeat("00", 16)},
		{store(x, 3, 0x01020304, 0x060708090a, 1, 2, 3), "02" + xHex + "03 01020304 000000060708090a 00000003 010203"},
		{store(x, 0, 0, 0), "02" + xHex + "00 00000000 0000000000000000 00000000"},
		{store(x, api.MaxN-1, math.MaxUint32, api.MaxTick, 0), "02" + xHex + "fe ffffffff 0000010000000000 00000001 00"},
		{store(x, 1, 0, 0, counted(258)...), "02" + xHex + "01 00000000 0000000000000000 00000102" + hex.EncodeToString(counted(258))},
		{fetch(x, 7, 0x010203, 0x0102), "03" + xHex + "07 00010203 00000102"},
		{fetch(x, 0, 0, 1), "03" + xHex + "00 00000000 00000001"},
		{fetch(x, api.MaxN-1, api.MaxShare, api.MaxFetch), "03" + xHex + "fe 02000000 00020000"},
		{renew(x, 0x01020304, 0x060708090a), "04" + xHex + "01020304 000000060708090a"},
		{renew(x, 0, 0), "04" + xHex + "00000000 0000000000000000"},
		{renew(x, math.MaxUint32, api.MaxTick), "04" + xHex + "ffffffff 0000010000000000"},
		{release(x, 0x01020304), "05" + xHex + "01020304"},
		{release(x, 0), "05" + xHex + "00000000"},
		{release(x, math.MaxUint32), "05" + xHex + "ffffffff"},
	}
}

// told is a reply with its bytes.
type told struct {
	reply api.Reply
	hex   string
}

func replies() []told {
	var all strings.Builder
	for _, n := range allNumbers() {
		all.WriteString(hex.EncodeToString([]byte{byte(n)}))
	}
	return []told{
		{numbers(0, 3), "01 02 00 03"},
		{some(0xaa), "05 00000001 aa"},
		{only(api.RepNone), "06"},
		{numbers(), "01 00"},
		{numbers(0), "01 01 00"},
		{numbers(254), "01 01 fe"},
		{numbers(1, 2, 9, 253, 254), "01 05 01 02 09 fd fe"},
		{numbers(allNumbers()...), "01 ff" + all.String()},
		{only(api.RepStored), "02"},
		{only(api.RepFull), "03"},
		{only(api.RepOther), "04"},
		{some(0), "05 00000001 00"},
		{some(counted(258)...), "05 00000102" + hex.EncodeToString(counted(258))},
		{some(counted(api.MaxFetch)...), "05 00020000" + hex.EncodeToString(counted(api.MaxFetch))},
		{only(api.RepRefused), "07"},
	}
}

func TestP20_1PutRequest(t *testing.T) {
	for _, w := range requests() {
		if b, e := wire.PutRequest(w.request); e != api.OK || !bytes.Equal(b, unhex(w.hex)) {
			t.Errorf("%v: %x, %d instead of %s", w.request, b, e, w.hex)
		}
	}
}

func TestP20_1PutRequestOfTheGreatestShare(t *testing.T) {
	share := counted(api.MaxShare)
	b, e := wire.PutRequest(store(x, 0, 0, 0, share...))
	want := append(unhex("02"+xHex+"00 00000000 0000000000000000 02000000"), share...)
	if e != api.OK || !bytes.Equal(b, want) {
		t.Errorf("%d bytes, %d", len(b), e)
	}
	if b, e := wire.PutRequest(store(x, 0, 0, 0, append(share, 0)...)); e != api.ErrRequest || len(b) != 0 {
		t.Errorf("one more: %d bytes, %d", len(b), e)
	}
}

// sound gives a request that may be of each kind, with something in all fields that it has.
func sound() []api.Request {
	return []api.Request{have(x), store(x, 3, 1, 5, 1, 2, 3), fetch(x, 3, 4, 2), renew(x, 1, 5), release(x, 1)}
}

// oddity is something that is changed in a request, and the letters of the kinds that may be so.
type oddity struct {
	name string
	turn func(r *api.Request)
	may  string
}

func oddities() []oddity {
	number := func(n int) func(*api.Request) { return func(r *api.Request) { r.Number = n } }
	at := func(n int) func(*api.Request) { return func(r *api.Request) { r.At = n } }
	length := func(n int) func(*api.Request) { return func(r *api.Request) { r.Len = n } }
	until := func(n int) func(*api.Request) { return func(r *api.Request) { r.Lease.Until = n } }
	who := func(n uint32) func(*api.Request) { return func(r *api.Request) { r.Lease.Who = n } }
	b := func(b []byte) func(*api.Request) { return func(r *api.Request) { r.Bytes = b } }
	list := []oddity{
		{"another index", func(r *api.Request) { r.Index = api.Index{15: 255} }, "HSFNL"},
		{"number 0", number(0), "HSFNL"},
		{"number 1", number(1), "SF"},
		{"the last number", number(api.MaxN - 1), "SF"},
		{"at 0", at(0), "HSFNL"},
		{"at 1", at(1), "F"},
		{"the last place", at(api.MaxShare), "F"},
		{"length 0", length(0), "HSNL"},
		{"length 1", length(1), "F"},
		{"the greatest length", length(api.MaxFetch), "F"},
		{"until 0", until(0), "HSFNL"},
		{"until 1", until(1), "SN"},
		{"until the last tick", until(api.MaxTick), "SN"},
		{"nobody", who(0), "HSFNL"},
		{"who 1", who(1), "SNL"},
		{"the last who", who(math.MaxUint32), "SNL"},
		{"no bytes", b(nil), "HSFNL"},
		{"an empty list", b([]byte{}), "HSFNL"},
		{"a byte", b([]byte{0}), "S"},
	}
	for _, n := range []int{-1, -256, math.MinInt, api.MaxN, api.MaxN + 1, 512, 1 << 32, math.MaxInt} {
		list = append(list, oddity{"a number that is none", number(n), ""})
	}
	for _, n := range []int{-1, math.MinInt, api.MaxShare + 1, 1 << 32, 1<<32 + 1, math.MaxInt} {
		list = append(list, oddity{"at what is no place", at(n), ""})
	}
	for _, n := range []int{-1, math.MinInt, api.MaxFetch + 1, 1 << 32, 1<<32 + 1, math.MaxInt} {
		list = append(list, oddity{"a length that is none", length(n), ""})
	}
	for _, n := range []int{-1, -api.MaxTick, math.MinInt, api.MaxTick + 1, 1 << 41, math.MaxInt} {
		list = append(list, oddity{"until no tick", until(n), ""})
	}
	return list
}

// eachOdd goes through all sound requests with one thing changed, with whether they may be.
func eachOdd(yield func(what string, r api.Request, may bool)) {
	for i, r := range sound() {
		letter := string("HSFNL"[i])
		for _, o := range oddities() {
			changed := r
			o.turn(&changed)
			yield(letter+" with "+o.name, changed, strings.Contains(o.may, letter))
		}
	}
}

func TestP20_1RequestsThatMayNotBe(t *testing.T) {
	eachOdd(func(what string, r api.Request, may bool) {
		b, e := wire.PutRequest(r)
		if may && (e != api.OK || len(b) < 17) {
			t.Errorf("%s: %x, %d", what, b, e)
		}
		if !may && (e != api.ErrRequest || len(b) != 0) {
			t.Errorf("%s: %x, %d instead of ErrRequest", what, b, e)
		}
		// The server's chapter says the same of what may be.
		if server.May(r) != may {
			t.Errorf("%s: a server takes it otherwise", what)
		}
	})
	if b, e := wire.PutRequest(api.Request{Kind: api.ReqHave, Len: 1}); e != api.ErrRequest || len(b) != 0 {
		t.Errorf("the example: %x, %d", b, e)
	}
}

func TestP20_1RequestsOfNoKind(t *testing.T) {
	for kind := range 256 {
		for i, r := range append(sound(), api.Request{}) {
			r.Kind = api.ReqKind(kind)
			b, e := wire.PutRequest(r)
			if may := server.May(r); may != (e == api.OK) || !may && (e != api.ErrRequest || len(b) != 0) {
				t.Errorf("request %d as kind %d: %x, %d", i, kind, b, e)
			}
			if e == api.OK && (kind < 1 || kind > 5) {
				t.Errorf("request %d as kind %d was put", i, kind)
			}
		}
	}
}

func TestP20_1PutReply(t *testing.T) {
	for _, w := range replies() {
		if b, e := wire.PutReply(w.reply); e != api.OK || !bytes.Equal(b, unhex(w.hex)) {
			t.Errorf("kind %d: %d bytes, %d", w.reply.Kind, len(b), e)
		}
	}
}

// noReplies gives replies that may not be.
func noReplies() []api.Reply {
	list := []api.Reply{
		numbers(255), numbers(256), numbers(-1), numbers(math.MinInt), numbers(math.MaxInt),
		numbers(0, 255), numbers(0, -1), numbers(-1, 0), numbers(3, 3), numbers(3, 2), numbers(0, 0), numbers(1, 2, 2), numbers(1, 3, 2, 4),
		numbers(0, 256), numbers(1, 257),
		numbers(append(allNumbers(), 255)...), numbers(append(allNumbers(), 254)...), numbers(append(allNumbers(), allNumbers()...)...),
		{Kind: api.RepNumbers, Bytes: []byte{0}}, {Kind: api.RepNumbers, Numbers: []int{1}, Bytes: []byte{0}},
		some(), some(make([]byte, api.MaxFetch+1)...), some(make([]byte, 2*api.MaxFetch)...),
		{Kind: api.RepBytes, Bytes: []byte{1}, Numbers: []int{0}}, {Kind: api.RepBytes, Numbers: []int{0}},
	}
	for _, k := range []api.RepKind{api.RepStored, api.RepFull, api.RepOther, api.RepNone, api.RepRefused} {
		list = append(list, api.Reply{Kind: k, Numbers: []int{0}}, api.Reply{Kind: k, Bytes: []byte{0}}, api.Reply{Kind: k, Numbers: []int{1}, Bytes: []byte{1}})
	}
	for k := range 256 {
		if k < 1 || k > 7 {
			list = append(list, only(api.RepKind(k)), api.Reply{Kind: api.RepKind(k), Numbers: []int{1}}, api.Reply{Kind: api.RepKind(k), Bytes: []byte{1}})
		}
	}
	return list
}

func TestP20_1RepliesThatMayNotBe(t *testing.T) {
	for i, r := range noReplies() {
		if b, e := wire.PutReply(r); e != api.ErrRepBytes || len(b) != 0 {
			t.Errorf("reply %d, kind %d: %d bytes, %d", i, r.Kind, len(b), e)
		}
	}
	for k := api.RepNumbers; k <= api.RepRefused; k++ {
		if k == api.RepBytes {
			continue
		}
		empty := api.Reply{Kind: k, Numbers: []int{}, Bytes: []byte{}}
		if b, e := wire.PutReply(empty); e != api.OK || b[0] != byte(k) {
			t.Errorf("kind %d with empty lists: %x, %d", k, b, e)
		}
	}
}
