package octet_test

import (
	"bytes"
	"math"
	"testing"

	"strongroom/api"
	"strongroom/octet"
)

// takes has each way to take bytes: how many, and whether what came is what want says (of no bytes: nothing).
var takes = []struct {
	name string
	size int
	is   func(r *octet.Reader, want []byte) bool
}{
	{"Byte", 1, func(r *octet.Reader, want []byte) bool { return r.Byte() == uint8(value(want)) }},
	{"Word", 4, func(r *octet.Reader, want []byte) bool { return r.Word() == uint32(value(want)) }},
	{"Long", 8, func(r *octet.Reader, want []byte) bool { return r.Long() == value(want) }},
	{"Digest", 32, func(r *octet.Reader, want []byte) bool {
		var d api.Digest
		copy(d[:], want)
		return r.Digest() == d
	}},
	{"Bytes(0)", 0, func(r *octet.Reader, want []byte) bool { return bytes.Equal(r.Bytes(0), want) }},
	{"Bytes(1)", 1, func(r *octet.Reader, want []byte) bool { return bytes.Equal(r.Bytes(1), want) }},
	{"Bytes(5)", 5, func(r *octet.Reader, want []byte) bool { return bytes.Equal(r.Bytes(5), want) }},
}

func value(b []byte) uint64 {
	var x uint64
	for _, c := range b {
		x = x*256 + uint64(c)
	}
	return x
}

// filled gives n bytes, of which the first 255 are not nought.
func filled(n int) []byte {
	b := make([]byte, n)
	for i := range b {
		b[i] = byte(255 - i)
	}
	return b
}

func wantNothing(t *testing.T, what string, r *octet.Reader, end api.Errno) {
	t.Helper()
	for round := range 2 {
		for _, take := range takes {
			if !take.is(r, nil) {
				t.Errorf("%s, round %d: %s tells something", what, round, take.name)
			}
			if left, e := r.Left(), r.End(); left != 0 || e != end {
				t.Errorf("%s, round %d, behind %s: Left %d, End %d", what, round, take.name, left, e)
			}
		}
		for _, n := range []int{-1, math.MinInt, math.MaxInt} {
			if b := r.Bytes(n); len(b) != 0 || r.Left() != 0 || r.End() != end {
				t.Errorf("%s, round %d: Bytes(%d): %v", what, round, n, b)
			}
		}
	}
}

func TestP1_7TakesFromTheLeft(t *testing.T) {
	for _, first := range takes {
		for _, second := range takes {
			b := filled(first.size + second.size + 2)
			r := octet.NewReader(b)
			if r.Left() != len(b) {
				t.Errorf("%d bytes: Left %d", len(b), r.Left())
			}
			if !first.is(r, b[:first.size]) || r.Left() != second.size+2 {
				t.Errorf("%s: other bytes, or Left %d", first.name, r.Left())
			}
			if !second.is(r, b[first.size:first.size+second.size]) || r.Left() != 2 {
				t.Errorf("%s, then %s: other bytes, or Left %d", first.name, second.name, r.Left())
			}
		}
	}
}

func TestP1_7Fault(t *testing.T) {
	for _, take := range takes {
		for short := 1; short <= take.size; short++ {
			b := filled(3 + take.size - short)
			r := octet.NewReader(b)
			if !bytes.Equal(r.Bytes(3), b[:3]) || r.End() == api.ErrEnd {
				t.Fatalf("%s: a fault ahead of it", take.name)
			}
			if !take.is(r, nil) {
				t.Errorf("%s, %d bytes short: tells something", take.name, short)
			}
			wantNothing(t, "behind "+take.name, r, api.ErrEnd)
		}
		if r := octet.NewReader(filled(take.size)); !take.is(r, filled(take.size)) || r.End() != api.OK {
			t.Errorf("%s of just enough bytes: a fault", take.name)
		}
	}
}

func TestP1_7BytesOutOfBounds(t *testing.T) {
	for _, n := range []int{-1, -50, math.MinInt, 51, math.MaxInt} {
		r := octet.NewReader(filled(50))
		if b := r.Bytes(n); len(b) != 0 {
			t.Errorf("Bytes(%d): %v", n, b)
		}
		wantNothing(t, "behind a fault of Bytes", r, api.ErrEnd)
	}
}

func TestP1_7Examples(t *testing.T) {
	r := octet.NewReader([]byte{1, 2, 3})
	if a, b, c := r.Byte(), r.Word(), r.Byte(); a != 1 || b != 0 || c != 0 || r.Left() != 0 || r.End() != api.ErrEnd {
		t.Errorf("of 1 2 3: %d %d %d, Left %d, End %d", a, b, c, r.Left(), r.End())
	}
	r = octet.NewReader([]byte{0, 0, 0, 9, 7})
	if a := r.Word(); a != 9 || r.Left() != 1 || r.End() != api.ErrRest {
		t.Errorf("of 0 0 0 9 7: %d, Left %d, End %d", a, r.Left(), r.End())
	}
	r = octet.NewReader([]byte{1})
	if a, b := r.Bytes(-1), r.Byte(); len(a) != 0 || b != 0 || r.End() != api.ErrEnd {
		t.Errorf("of 1: %v %d, End %d", a, b, r.End())
	}
}

func TestP1_8End(t *testing.T) {
	for _, b := range [][]byte{nil, {}} {
		if r := octet.NewReader(b); r.End() != api.OK || r.Left() != 0 {
			t.Errorf("of no bytes: %d", r.End())
		}
	}
	r := octet.NewReader([]byte{5, 6})
	for range 3 {
		if r.End() != api.ErrRest || r.Left() != 2 {
			t.Errorf("two are left: End %d, Left %d", r.End(), r.Left())
		}
	}
	if r.Byte() != 5 || r.End() != api.ErrRest || r.Byte() != 6 {
		t.Error("End changes what is taken")
	}
	for range 3 {
		if r.End() != api.OK {
			t.Errorf("none is left: End %d", r.End())
		}
	}
	if r.Byte() != 0 || r.End() != api.ErrEnd || r.End() != api.ErrEnd {
		t.Errorf("a fault behind the end: End %d", r.End())
	}
	r = octet.NewReader(filled(20))
	if r.Digest(); r.End() != api.ErrEnd {
		t.Errorf("a fault ahead of 20 bytes: End %d", r.End())
	}
}

func TestP1_9NoReader(t *testing.T) {
	wantNothing(t, "nil", nil, api.ErrNil)
	wantNothing(t, "a reader of the caller's", &octet.Reader{}, api.ErrNil)
	wantNothing(t, "a new reader", new(octet.Reader), api.ErrNil)
}

// handOut takes bytes in a row of ways and tells what came, one behind the other.
func handOut(r *octet.Reader, ways []int) []byte {
	var out []byte
	for _, way := range ways {
		switch way {
		case 0:
			out = append(out, r.Byte())
		case 1:
			out = append(out, octet.Big(r.Word())...)
		case 2:
			out = append(out, octet.Big(r.Long())...)
		case 3:
			d := r.Digest()
			out = append(out, d[:]...)
		default:
			out = append(out, r.Bytes(way-4)...)
		}
	}
	return out
}

func TestP1_13AllIsHandedOut(t *testing.T) {
	state := uint32(1)
	for row := range 300 {
		var ways []int
		size := 0
		for range row % 9 {
			state = state*1664525 + 1013904223
			way := int(state>>16) % 12
			ways = append(ways, way)
			size += []int{1, 4, 8, 32, 0, 1, 2, 3, 4, 5, 6, 7}[way]
		}
		b := filled(size + 1)
		just, more := octet.NewReader(b[:size]), octet.NewReader(b)
		if out := handOut(just, ways); just.End() != api.OK || !bytes.Equal(out, b[:size]) {
			t.Errorf("%v of %d bytes: End %d, handed out %v", ways, size, just.End(), out)
		}
		if handOut(more, ways); more.End() != api.ErrRest {
			t.Errorf("%v of a byte more: End %d", ways, more.End())
		}
		if size > 0 {
			fewer := octet.NewReader(b[:size-1])
			if handOut(fewer, ways); fewer.End() != api.ErrEnd {
				t.Errorf("%v of a byte fewer: End %d", ways, fewer.End())
			}
		}
	}
}

// R3: a reader holds what it was handed, and what it hands out is nobody else's.
func TestReaderHoldsItsOwn(t *testing.T) {
	b, changed := roomy(1, 2, 3, 4, 5, 6)
	r := octet.NewReader(b)
	first := r.Bytes(2)
	second := r.Bytes(2)
	spoil(first)
	wantBytes(t, "the second two", second, 3, 4)
	spoil(second)
	if changed() {
		t.Error("what was handed out has a part in the argument")
	}
	spoil(b)
	wantBytes(t, "the last two", r.Bytes(2), 5, 6)
	if r.End() != api.OK {
		t.Errorf("End %d", r.End())
	}
}

// R3: two readers of one list do not know of each other.
func TestReadersStandAlone(t *testing.T) {
	b := []byte{1, 2, 3}
	one, other := octet.NewReader(b), octet.NewReader(b)
	if one.Byte() != 1 || one.Word() != 0 || other.Left() != 3 || other.Byte() != 1 || other.End() != api.ErrRest {
		t.Error("a reader changed the other one")
	}
}
