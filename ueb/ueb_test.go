package ueb_test

import (
	"crypto/sha256"
	"encoding/binary"
	"fmt"
	"math"
	"math/rand/v2"
	"slices"
	"strings"
	"testing"

	"strongroom/api"
	"strongroom/ueb"
)

// digest gives a digest that looks like no rule.
func digest(seed int) api.Digest { return sha256.Sum256([]byte{byte(seed), byte(seed >> 8)}) }

// bound gives a Ueb of these four, with two digests.
func bound(k, n, seg, size int) api.Ueb {
	return api.Ueb{K: k, N: n, Seg: seg, Size: size, Shares: digest(k + n), Segs: digest(seg + size)}
}

// uebRows gives the table of a Ueb.
func uebRows(u api.Ueb) []api.Row {
	return []api.Row{
		row("k", fmt.Sprint(u.K)), row("n", fmt.Sprint(u.N)), row("seg", fmt.Sprint(u.Seg)),
		row("segments", string(u.Segs[:])), row("shares", string(u.Shares[:])), row("size", fmt.Sprint(u.Size)),
	}
}

// tagged reckons a tagged digest by the library.
func tagged(word string, parts ...[]byte) api.Digest {
	var b []byte
	for _, part := range append([][]byte{[]byte(word)}, parts...) {
		b = binary.BigEndian.AppendUint64(b, uint64(len(part)))
		b = append(b, part...)
	}
	return sha256.Sum256(b)
}

// binding gives Uebs that may be, at their edges and between.
func binding() []api.Ueb {
	out := []api.Ueb{
		bound(3, 10, 66, 1000), bound(1, 1, 1, 33), bound(1, 1, 1, 512), bound(1, 255, 65536, 33), bound(1, 1, 65536, 1<<24), bound(1, 2, 32768, 1<<24),
		bound(255, 255, 255, 33), bound(255, 255, 65535, 1<<24), bound(255, 255, 65790-255, 300), bound(3, 5, 65538, 100), bound(3, 5, 12, 6144), bound(254, 255, 65786-254, 65532),
		bound(7, 9, 65541, 1<<24), bound(2, 3, 2, 1024), bound(10, 10, 100, 51200), {K: 1, N: 1, Seg: 33, Size: 33},
	}
	// Digests of digits, colons and commas are digests, too.
	u := bound(3, 10, 66, 1000)
	copy(u.Shares[:], "1:k,1:3,4:size,4:1000,1:a,0:,,,,,")
	copy(u.Segs[:], ",,,,::::,,,,32:,,32:8:segments,1:")
	return append(out, u)
}

// unbound gives Uebs that may not be.
func unbound() []api.Ueb {
	var out []api.Ueb
	for _, four := range [][4]int{
		{3, 10, 64, 1000}, {3, 10, 65, 1000}, {3, 10, 67, 1000}, {3, 2, 66, 1000}, {0, 10, 66, 1000}, {-3, 10, 66, 1000}, {3, 256, 66, 1000}, {3, 0, 66, 1000}, {3, -10, 66, 1000},
		{3, 10, 0, 1000}, {3, 10, -66, 1000}, {3, 10, 65541, 1000}, {1, 1, 65537, 1000}, {2, 2, 65538, 1000}, {255, 255, 65790 + 255, 1000}, {3, 10, 66, 32}, {3, 10, 66, 0}, {3, 10, 66, -1000},
		{3, 10, 65538, 1<<24 + 1}, {3, 5, 12, 6145}, {1, 1, 1, 513}, {256, 256, 256, 1000}, {0, 0, 0, 0}, {3, 10, 66, math.MaxInt}, {3, 10, 66, math.MinInt}, {3, 10, math.MaxInt, 1000},
		{3, 10, math.MinInt, 1000}, {3, math.MaxInt, 66, 1000}, {math.MinInt, 10, 66, 1000}, {math.MaxInt, math.MaxInt, math.MaxInt, math.MaxInt}, {3, 10, 66 + 1<<32, 1000}, {3, 10, 66, 1000 + 1<<32}, {3, 10 + 256, 66, 1000},
	} {
		out = append(out, bound(four[0], four[1], four[2], four[3]))
	}
	return append(out, api.Ueb{})
}

func TestP13_3Check(t *testing.T) {
	for _, u := range binding() {
		if e := ueb.Check(u); e != api.OK {
			t.Errorf("%+v: %d", u, e)
		}
	}
	for _, u := range unbound() {
		if e := ueb.Check(u); e != api.ErrUeb {
			t.Errorf("%+v: %d", u, e)
		}
	}
}

// fits says in its own words whether there is a shape of these four.
func fits(k, n, seg, size int) bool {
	return k >= 1 && k <= n && n <= 255 && size > 32 && size <= 1<<24 && seg >= k && seg%k == 0 && (seg/k-1)*k < 65536 && (size+seg-1)/seg <= 512
}

func TestP13_3AsReckoned(t *testing.T) {
	draw := rand.New(rand.NewPCG(13, 3))
	taken := 0
	for range 20000 {
		k := draw.IntN(20)
		u := bound(k, draw.IntN(20), k*draw.IntN(1<<draw.IntN(18))+draw.IntN(2)*draw.IntN(2), draw.IntN(1<<draw.IntN(26)))
		want := api.ErrUeb
		if fits(u.K, u.N, u.Seg, u.Size) {
			want = api.OK
			taken++
		}
		if e := ueb.Check(u); e != want {
			t.Errorf("%+v: %d", u, e)
		}
	}
	if taken < 1000 {
		t.Errorf("only %d that may be were drawn", taken)
	}
}

func TestP13_4Write(t *testing.T) {
	for _, u := range binding() {
		want := tableBytes(uebRows(u))
		if b, e := ueb.Write(u); string(b) != want || e != api.OK {
			t.Errorf("%+v: %q, %d", u, b, e)
		}
		if n, e := ueb.Length(u); n != len(want) || e != api.OK {
			t.Errorf("%+v: %d, %d", u, n, e)
		}
		if d, e := ueb.Digest(u); d != tagged("strongroom ueb", []byte(want)) || e != api.OK {
			t.Errorf("%+v: %x, %d", u, d, e)
		}
	}
}

func TestP13_4Refused(t *testing.T) {
	for _, u := range unbound() {
		if b, e := ueb.Write(u); len(b) != 0 || e != api.ErrUeb {
			t.Errorf("%+v: %q, %d", u, b, e)
		}
		if n, e := ueb.Length(u); n != 0 || e != api.ErrUeb {
			t.Errorf("%+v: %d, %d", u, n, e)
		}
		if d, e := ueb.Digest(u); d != (api.Digest{}) || e != api.ErrUeb {
			t.Errorf("%+v: %x, %d", u, d, e)
		}
	}
}

func TestP13_4OwnMemory(t *testing.T) {
	u := bound(3, 10, 66, 1000)
	one, _ := ueb.Write(u)
	two, _ := ueb.Write(u)
	spoil(one)
	if three, _ := ueb.Write(u); string(two) != tableBytes(uebRows(u)) || string(three) != string(two) || u != bound(3, 10, 66, 1000) {
		t.Errorf("%q, %q", two, three)
	}
}

func wantRead(t *testing.T, s string, want api.Ueb, place int, wanted api.Errno) {
	t.Helper()
	b, stays := roomy([]byte(s))
	if u, at, e := ueb.Read(b); u != want || at != place || e != wanted || !stays() {
		t.Errorf("%.300q: %+v, %d, %d", s, u, at, e)
	}
}

func TestP13_5Read(t *testing.T) {
	for _, u := range binding() {
		wantRead(t, tableBytes(uebRows(u)), u, 0, api.OK)
	}
}

func TestP13_5Form(t *testing.T) {
	whole := tableBytes(uebRows(bound(3, 10, 66, 1000)))
	for _, fault := range faults() {
		wantRead(t, fault, api.Ueb{}, 0, api.ErrForm)
		wantRead(t, whole+fault, api.Ueb{}, len(whole), api.ErrForm)
		wantRead(t, "1:k,1:3,"+fault, api.Ueb{}, 8, api.ErrForm)
	}
	// Rows in another order, or one of them twice, are no table at all.
	for i := range 5 {
		rows := uebRows(bound(3, 10, 66, 1000))
		twice := slices.Insert(slices.Clone(rows), i, rows[i])
		wantRead(t, tableBytes(twice), api.Ueb{}, len(tableBytes(twice[:i+1])), api.ErrForm)
		rows[i], rows[i+1] = rows[i+1], rows[i]
		wantRead(t, tableBytes(rows), api.Ueb{}, len(tableBytes(rows[:i+1])), api.ErrForm)
	}
}

func TestP13_5OtherRows(t *testing.T) {
	u := bound(3, 10, 66, 1000)
	wantRead(t, "", api.Ueb{}, 0, api.ErrFields)
	wantRead(t, "1:a,3:xyz,", api.Ueb{}, 0, api.ErrFields)
	wantRead(t, tableBytes(numbered(6)), api.Ueb{}, 0, api.ErrFields)
	wantRead(t, tableBytes(numbered(64)), api.Ueb{}, 0, api.ErrFields)
	for i := range 6 {
		wantRead(t, tableBytes(uebRows(u)[:i]), api.Ueb{}, 0, api.ErrFields)
		wantRead(t, tableBytes(slices.Delete(uebRows(u), i, i+1)), api.Ueb{}, 0, api.ErrFields)
		// Names that still stand between their neighbours', in the place of one of the six and beside it.
		for _, more := range []string{"\x00", "0", "a"} {
			other := uebRows(u)
			other[i].Name += more
			if _, _, e := ueb.Unpack([]byte(tableBytes(other))); e != api.OK {
				continue
			}
			wantRead(t, tableBytes(other), api.Ueb{}, 0, api.ErrFields)
			wantRead(t, tableBytes(slices.Insert(uebRows(u), i+1, other[i])), api.Ueb{}, 0, api.ErrFields)
		}
	}
	for _, name := range []string{"a", "K", "\x00"} {
		wantRead(t, rowBytes(row(name, "1"))+tableBytes(uebRows(u)), api.Ueb{}, 0, api.ErrFields)
		wantRead(t, rowBytes(row(name, "1"))+tableBytes(uebRows(u)[1:]), api.Ueb{}, 0, api.ErrFields)
	}
	for _, name := range []string{"z", "size ", "sizes", "\xff"} {
		wantRead(t, tableBytes(uebRows(u))+rowBytes(row(name, "")), api.Ueb{}, 0, api.ErrFields)
		wantRead(t, tableBytes(uebRows(u)[:5])+rowBytes(row(name, "1000")), api.Ueb{}, 0, api.ErrFields)
	}
}

func TestP13_5OtherValues(t *testing.T) {
	for _, i := range []int{0, 1, 2, 5} {
		for _, value := range []string{
			"", "x", "03", "003", "+3", "-3", " 3", "3 ", "3.0", "0x3", "3e0", "1_0", "٣", "-1", "-0", "00", "2147483648", "2147483649", "4294967296", "4294967299",
			"9223372036854775807", "9223372036854775808", "18446744073709551619", strings.Repeat("1", 100), strings.Repeat("1", 65536), "3\x00", "3,", "\x003", "3\n",
		} {
			rows := uebRows(bound(3, 10, 66, 1000))
			rows[i].Value = []byte(value)
			wantRead(t, tableBytes(rows), api.Ueb{}, 0, api.ErrFields)
		}
		// The greatest number that is one is read, and then no such Ueb may be.
		for _, value := range []string{"2147483647", "2147483646", "0", "100000000"} {
			rows := uebRows(bound(3, 10, 66, 1000))
			rows[i].Value = []byte(value)
			wantRead(t, tableBytes(rows), api.Ueb{}, 0, api.ErrUeb)
		}
	}
	for _, i := range []int{3, 4} {
		for _, size := range []int{0, 1, 16, 31, 33, 64, 1000} {
			rows := uebRows(bound(3, 10, 66, 1000))
			rows[i].Value = make([]byte, size)
			wantRead(t, tableBytes(rows), api.Ueb{}, 0, api.ErrFields)
		}
	}
}

func TestP13_5MayNotBe(t *testing.T) {
	asRead := 0
	for _, u := range unbound() {
		if min(u.K, u.N, u.Seg, u.Size) >= 0 && max(u.K, u.N, u.Seg, u.Size) <= math.MaxInt32 {
			wantRead(t, tableBytes(uebRows(u)), api.Ueb{}, 0, api.ErrUeb)
			asRead++
		} else {
			wantRead(t, tableBytes(uebRows(u)), api.Ueb{}, 0, api.ErrFields)
		}
	}
	if asRead < 10 {
		t.Error(asRead)
	}
	// What is told first: a fault of form, then one of the rows, then what may not be.
	u := bound(3, 10, 64, 1000)
	wantRead(t, tableBytes(uebRows(u))+"x", api.Ueb{}, len(tableBytes(uebRows(u))), api.ErrForm)
	wantRead(t, tableBytes(uebRows(u))+"1:z,0:,", api.Ueb{}, 0, api.ErrFields)
	rows := uebRows(u)
	rows[3].Value = rows[3].Value[:31]
	wantRead(t, tableBytes(rows), api.Ueb{}, 0, api.ErrFields)
}

func TestP13_6UebsThereAndBack(t *testing.T) {
	for _, u := range binding() {
		b, e := ueb.Write(u)
		if e != api.OK {
			t.Fatal(e)
		}
		wantRead(t, string(b), u, 0, api.OK)
	}
	draw := rand.New(rand.NewPCG(13, 6))
	whole := tableBytes(uebRows(bound(3, 10, 66, 1000)))
	taken := 0
	for range 20000 {
		b := []byte(whole)
		for range 1 + draw.IntN(2) {
			b[draw.IntN(len(b))] = "0123456789:,k"[draw.IntN(13)]
		}
		u, at, e := ueb.Read(b)
		if e != api.OK {
			if u != (api.Ueb{}) || at != 0 && e != api.ErrForm {
				t.Fatalf("%q: %v, %d, %d", b, u, at, e)
			}
			continue
		}
		taken++
		if again, e := ueb.Write(u); string(again) != string(b) || e != api.OK {
			t.Fatalf("%q: written as %q, %d", b, again, e)
		}
	}
	if taken < 1000 {
		t.Errorf("only %d were taken", taken)
	}
}

func TestP13_7UnlikeUebsUnlikeBytes(t *testing.T) {
	u := bound(3, 12, 66, 1000)
	others := []api.Ueb{u, bound(6, 12, 66, 1000), bound(3, 13, 66, 1000), bound(3, 12, 69, 1000), bound(3, 12, 66, 1001), bound(3, 12, 666, 1000), bound(3, 12, 6, 1000), bound(1, 12, 66, 1000), bound(3, 12, 66, 10000)}
	for i := range others {
		others[i].Shares, others[i].Segs = u.Shares, u.Segs
	}
	for i := range 32 {
		shares, segs := u, u
		shares.Shares[i] ^= 1
		segs.Segs[i] ^= 128
		others = append(others, shares, segs)
	}
	turned := u
	turned.Shares, turned.Segs = u.Segs, u.Shares
	others = append(others, turned)
	seen, digests := map[string]int{}, map[api.Digest]int{}
	for i, other := range others {
		b, e := ueb.Write(other)
		d, f := ueb.Digest(other)
		if e != api.OK || f != api.OK {
			t.Fatal(i, e, f)
		}
		seen[string(b)]++
		digests[d]++
	}
	if len(seen) != len(others) || len(digests) != len(others) {
		t.Errorf("%d unlike Uebs have %d unlike bytes, %d unlike digests", len(others), len(seen), len(digests))
	}
}

func TestP13_8CutUebs(t *testing.T) {
	rows := uebRows(bound(3, 10, 66, 1000))
	whole := tableBytes(rows)
	for i := range len(whole) {
		begins, isEnd := 0, false
		for j := range 6 {
			if at := len(tableBytes(rows[:j])); at <= i {
				begins, isEnd = at, at == i
			}
		}
		if isEnd {
			wantRead(t, whole[:i], api.Ueb{}, 0, api.ErrFields)
		} else {
			wantRead(t, whole[:i], api.Ueb{}, begins, api.ErrForm)
		}
	}
}

func TestExamplesOfUebs(t *testing.T) {
	u := bound(3, 10, 66, 1000)
	if n, e := ueb.Length(u); n != 134 || e != api.OK {
		t.Errorf("%d, %d", n, e)
	}
	b, e := ueb.Write(u)
	want := "1:k,1:3,1:n,2:10,3:seg,2:66,8:segments,32:" + string(u.Segs[:]) + ",6:shares,32:" + string(u.Shares[:]) + ",4:size,4:1000,"
	if string(b) != want || e != api.OK {
		t.Errorf("%q, %d", b, e)
	}
	wantRead(t, want+"1:z,0:,", api.Ueb{}, 0, api.ErrFields)
	u.Seg = 64
	if b, e := ueb.Write(u); len(b) != 0 || e != api.ErrUeb {
		t.Errorf("%q, %d", b, e)
	}
}
