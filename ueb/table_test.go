package ueb_test

import (
	"bytes"
	"fmt"
	"math/rand/v2"
	"reflect"
	"regexp"
	"slices"
	"strconv"
	"strings"
	"testing"

	"strongroom/api"
	"strongroom/ueb"
)

// roomy gives a list with spare room behind it, and a function that tells whether all of it is as it was.
func roomy(list []byte) ([]byte, func() bool) {
	all := append(slices.Clone(list), 7, 7, 7)
	was := slices.Clone(all)
	return all[:len(list)], func() bool { return bytes.Equal(all, was) }
}

// spoil overwrites a list and its spare room.
func spoil(l []byte) {
	l = l[:cap(l)]
	for i := range l {
		l[i] ^= 0xa5
	}
}

// row is a row of texts.
func row(name, value string) api.Row { return api.Row{Name: name, Value: []byte(value)} }

func long(n int) string { return strings.Repeat("n", n) }

// rowBytes writes a row as the document says.
func rowBytes(r api.Row) string {
	return fmt.Sprintf("%d:%s,%d:%s,", len(r.Name), r.Name, len(r.Value), r.Value)
}

func tableBytes(rows []api.Row) string {
	var b strings.Builder
	for _, r := range rows {
		b.WriteString(rowBytes(r))
	}
	return b.String()
}

// numbered gives so many rows whose names rise.
func numbered(n int) []api.Row {
	var rows []api.Row
	for i := range n {
		rows = append(rows, row(fmt.Sprintf("row %03d", i), strings.Repeat("v", i)))
	}
	return rows
}

// tables gives tables that may be, at their edges and between.
func tables() [][]api.Row {
	return [][]api.Row{
		nil, {}, {row("a", "xyz")}, {row("a", "")}, {{Name: "a"}}, {row("a", "xyz"), row("b", "")},
		{row("a", "1"), row("aa", "2"), row("ab", "3"), row("b", "4")}, {row("A", ""), row("a", "")}, {row("\x00", "\x00"), row("\x00\x00", "\x00\x00")},
		{row(":", ":"), row(":,", "1:a,0:,")}, {row(",", ","), row("1:", ":,")}, {row("10", "x"), row("9", "y")}, {row("\xff", "\xff"), row("\xff\xfe", "\xfe")},
		{row("z", "last of the small"), row("é", "above them, as bytes")}, {row("a", strings.Repeat(",", 9)), row("b", strings.Repeat("9", 10)), row("c", strings.Repeat(":", 11))},
		{row(long(64), "")}, {row(long(63), long(99)), row(long(64), long(100)), row("o", long(101))}, {row("a", long(65535)), row("b", long(65536))},
		numbered(1), numbered(63), numbered(64),
	}
}

func sameRows(a, b []api.Row) bool {
	return slices.EqualFunc(a, b, func(x, y api.Row) bool { return x.Name == y.Name && bytes.Equal(x.Value, y.Value) })
}

func wantPack(t *testing.T, rows []api.Row, want string, wanted api.Errno) {
	t.Helper()
	if b, e := ueb.Pack(rows); string(b) != want || e != wanted {
		t.Errorf("%.200q: %.200q, %d", rows, b, e)
	}
}

func TestP13_1Pack(t *testing.T) {
	for _, rows := range tables() {
		wantPack(t, rows, tableBytes(rows), api.OK)
	}
}

func TestP13_1Refused(t *testing.T) {
	for _, rows := range [][]api.Row{
		{row("b", ""), row("a", "")}, {row("a", ""), row("a", "")}, {row("a", "1"), row("a", "2")}, {row("aa", ""), row("a", "")},
		{row("a", ""), row("A", "")}, {row("9", ""), row("10", "")}, {row("\xff", ""), row("\x00", "")}, {row("é", ""), row("z", "")},
		{row("", "")}, {{}}, {row("", "x"), row("a", "")}, {row("a", ""), row("", "")},
		{row(long(65), "")}, {row(long(1000), "")}, {row("a", ""), row(long(65), "")}, {row(long(65), ""), row("o", "")},
		{row("a", long(65537))}, {row("a", long(1<<20))}, {row("a", ""), row("b", long(65537))}, {row("a", long(65537)), row("b", "")},
		{row("a", ""), row("c", ""), row("b", "")}, {row("b", ""), row("a", ""), row("c", "")}, {row("a", ""), row("b", ""), row("a", "")},
		numbered(65), numbered(66), numbered(500), make([]api.Row, 65), make([]api.Row, 64), make([]api.Row, 2),
	} {
		wantPack(t, rows, "", api.ErrTable)
	}
}

func TestP13_1OwnMemory(t *testing.T) {
	value, stays := roomy([]byte("xyz"))
	rows := []api.Row{{Name: "a", Value: value}, {Name: "b", Value: value}, {Name: "spare"}}
	was := slices.Clone(rows)
	one, _ := ueb.Pack(rows[:2])
	two, _ := ueb.Pack(rows[:2])
	spoil(one)
	if string(two) != "1:a,3:xyz,1:b,3:xyz," || !stays() || !reflect.DeepEqual(rows, was) {
		t.Errorf("%q, %v", two, rows)
	}
	spoil(two)
	if !stays() || !reflect.DeepEqual(rows, was) {
		t.Errorf("an answer has a part in an argument: %v", rows)
	}
}

// read is a table as the document has it read, by an expression: the rows, or the place of the first one at fault.
func read(b []byte) ([]api.Row, int, api.Errno) {
	size := regexp.MustCompile(`^(0|[1-9][0-9]{0,8}):`)
	field := func(rest []byte, least, most int) ([]byte, []byte, bool) {
		m := size.FindSubmatch(rest)
		if m == nil {
			return nil, nil, false
		}
		n, _ := strconv.Atoi(string(m[1]))
		rest = rest[len(m[0]):]
		if n < least || n > most || len(rest) < n+1 || rest[n] != ',' {
			return nil, nil, false
		}
		return rest[:n], rest[n+1:], true
	}
	var rows []api.Row
	for at := 0; at < len(b); {
		name, rest, is := field(b[at:], 1, 64)
		if !is {
			return nil, at, api.ErrForm
		}
		value, rest, is := field(rest, 0, 65536)
		if !is || len(rows) == 64 || len(rows) > 0 && bytes.Compare([]byte(rows[len(rows)-1].Name), name) >= 0 {
			return nil, at, api.ErrForm
		}
		rows = append(rows, api.Row{Name: string(name), Value: bytes.Clone(value)})
		at = len(b) - len(rest)
	}
	return rows, 0, api.OK
}

func wantUnpack(t *testing.T, s string, want []api.Row, place int, wanted api.Errno) {
	t.Helper()
	b, stays := roomy([]byte(s))
	if rows, at, e := ueb.Unpack(b); !sameRows(rows, want) || at != place || e != wanted || !stays() {
		t.Errorf("%.200q: %.200q, %d, %d", s, rows, at, e)
	}
}

func TestP13_2Unpack(t *testing.T) {
	for _, rows := range tables() {
		wantUnpack(t, tableBytes(rows), rows, 0, api.OK)
	}
	wantUnpack(t, "1:a,3:xyz,2:b:,1:,,", []api.Row{row("a", "xyz"), row("b:", ",")}, 0, api.OK)
	if rows, at, e := ueb.Unpack(nil); len(rows) != 0 || at != 0 || e != api.OK {
		t.Errorf("of nil: %v, %d, %d", rows, at, e)
	}
}

// faults gives bytes of which the row that begins at 0 is at fault, whatever stands ahead.
func faults() []string {
	return []string{
		"x", ":", ",", "1", "12", "1:", "1:z", "1:z,", "1:z,0", "1:z,0:", "1:z,1", "1:z,1:", "1:z,1:v", "1:z,2:v,", "1:z,3:v,",
		"01:z,0:,", "001:z,0:,", "+1:z,0:,", "-1:z,0:,", " 1:z,0:,", "1 :z,0:,", "0x1:z,0:,", "1_0:" + "zzzzzzzzzz" + ",0:,", "٣:zzz,0:,",
		"1:z,00:,", "1:z,01:v,", "1:z,+0:,", "1:z,-0:,", "1:z,+1:v,", "1:z,-1:,", "1:z, 1:v,", "1:z,:,", "1:z,:v,", "1:z,0x1:v,",
		":z,0:,", ":,0:,", "0:,0:,", "0:,1:v,", "00:,0:,", "-0:,0:,",
		"1;z,0:,", "1:z;0:,", "1:z,0;,", "1:z,0:;", "1:z,1:v;", "1:zz,0:,", "2:z,0:,", "1:z,1:vv,", "1:z,0:v,", "1,z:0:,", "1:z0:,", "1:z,,", "1z,0:,",
		"65:" + "z" + long(64) + ",0:,", "64:" + "z" + long(64) + ",0:,", "65:" + "z" + long(63) + ",0:,", "100:" + "z" + long(99) + ",0:,", "640:" + "z" + long(639) + ",0:,",
		"1:z,65537:" + long(65537) + ",", "1:z,65536:" + long(65535) + ",", "1:z,65536:" + long(65537) + ",", "1:z,65536:" + long(65536), "1:z,100000:" + long(100000) + ",",
		"1:z,2147483648:,", "1:z,4294967296:,", "1:z,9223372036854775807:,", "1:z,9223372036854775808:,", "1:z,18446744073709551615:,", "1:z,18446744073709551616:,", "1:z,-9223372036854775808:,",
		"9223372036854775807:z,0:,", "18446744073709551617:z,0:,", "4294967297:z,0:,", strings.Repeat("1", 5000) + ":z,0:,", strings.Repeat("0", 5000) + "1:z,0:,", "1:z," + strings.Repeat("0", 5000) + ":,",
		strings.Repeat("1", 100000), strings.Repeat(":", 70), strings.Repeat("\x00", 70), strings.Repeat("\xff", 70),
	}
}

func TestP13_2Refused(t *testing.T) {
	for _, ahead := range [][]api.Row{nil, {row("a", "xyz")}, {row("a", ""), row("b", "x")}, numbered(63), {row("a", long(65536))}} {
		for _, fault := range faults() {
			s := tableBytes(ahead)
			wantUnpack(t, s+fault, nil, len(s), api.ErrForm)
			wantUnpack(t, s+fault+"!2:zz,0:,", nil, len(s), api.ErrForm)
		}
	}
}

func TestP13_2NamesThatDoNotRise(t *testing.T) {
	ahead := []api.Row{row("b", "1"), row("bb", "2"), row("m", "3"), row("m:", "4")}
	s := tableBytes(ahead)
	for _, name := range []string{"m:", "m", "b", "bb", "a", "M", "m9", "l\xff", "\x00", ":", "m" + "\x00" + long(62)} {
		wantUnpack(t, s+rowBytes(row(name, "5")), nil, len(s), api.ErrForm)
		wantUnpack(t, s+rowBytes(row(name, "5"))+rowBytes(row("z", "")), nil, len(s), api.ErrForm)
	}
	for _, name := range []string{"m;", "m:\x00", "n", "\xff", "mm", "m:" + long(62)} {
		wantUnpack(t, s+rowBytes(row(name, "5")), append(slices.Clone(ahead), row(name, "5")), 0, api.OK)
	}
	// Of two rows at fault the first one is told.
	wantUnpack(t, s+"1:a,0:,"+"x", nil, len(s), api.ErrForm)
	wantUnpack(t, s+"1:z,0:,"+"x", nil, len(s)+7, api.ErrForm)
}

func TestP13_2RowsBehindTheLast(t *testing.T) {
	s := tableBytes(numbered(64))
	for _, more := range []string{"1:z,0:,", "1:z,0:,2:zz,0:,", "1:a,0:,", "x", rowBytes(row("row 064", "")), rowBytes(row("z", long(65536)))} {
		wantUnpack(t, s+more, nil, len(s), api.ErrForm)
	}
	wantUnpack(t, tableBytes(numbered(500)), nil, len(s), api.ErrForm)
	wantUnpack(t, tableBytes(numbered(63))+"1:z,0:,", append(numbered(63), row("z", "")), 0, api.OK)
}

// altered gives bytes near to those of tables, drawn by fixed seeds.
func altered(n int) []string {
	draw := rand.New(rand.NewPCG(13, 2))
	signs := "0123456789:,:,ab\x00"
	var out []string
	for range n {
		var rows []api.Row
		for i := range draw.IntN(4) {
			rows = append(rows, row(string(rune('a'+i*draw.IntN(3)))+signs[:draw.IntN(12)], signs[draw.IntN(9):]))
		}
		b := []byte(tableBytes(rows))
		for range draw.IntN(3) {
			if len(b) == 0 {
				break
			}
			switch i := draw.IntN(len(b)); draw.IntN(3) {
			case 0:
				b[i] = signs[draw.IntN(len(signs))]
			case 1:
				b = slices.Delete(b, i, i+1)
			case 2:
				b = slices.Insert(b, i, signs[draw.IntN(len(signs))])
			}
		}
		out = append(out, string(b))
	}
	return out
}

func TestP13_2AsReckoned(t *testing.T) {
	taken := 0
	for _, s := range altered(20000) {
		rows, at, e := read([]byte(s))
		wantUnpack(t, s, rows, at, e)
		if e == api.OK && len(rows) > 0 {
			taken++
		}
	}
	if taken < 1000 {
		t.Errorf("only %d tables were drawn", taken)
	}
	for _, s := range append(faults(), "1:a,0:,1:a,0:,") {
		if _, at, e := read([]byte(s)); at < 0 || e != api.ErrForm {
			t.Errorf("the reckoning takes %q", s)
		}
	}
}

func TestP13_2OwnMemory(t *testing.T) {
	b, stays := roomy([]byte("1:a,3:xyz,1:b,0:,1:c,3:uvw,"))
	want := []api.Row{row("a", "xyz"), row("b", ""), row("c", "uvw")}
	one, _, _ := ueb.Unpack(b)
	two, _, _ := ueb.Unpack(b)
	for i := range one {
		spoil(one[i].Value)
		one[i].Name = "other"
		if i < 2 && !sameRows(one[i+1:], want[i+1:]) || !sameRows(two, want) || !stays() {
			t.Fatalf("row %d has a part in another one, in another answer or in the argument", i)
		}
	}
	spoil(b)
	if !sameRows(two, want) {
		t.Errorf("a part of the argument is kept: %q", two)
	}
}

func TestP13_6TablesThereAndBack(t *testing.T) {
	for _, rows := range tables() {
		b, e := ueb.Pack(rows)
		again, at, f := ueb.Unpack(b)
		if e != api.OK || f != api.OK || at != 0 || !sameRows(again, rows) {
			t.Errorf("%.200q: %d, %d, %d, %.200q", rows, e, at, f, again)
		}
	}
	for _, s := range altered(20000) {
		if rows, _, e := ueb.Unpack([]byte(s)); e == api.OK {
			wantPack(t, rows, s, api.OK)
		}
	}
}

func TestP13_8CutTables(t *testing.T) {
	all := []api.Row{row("a", "xyz"), row("b", ""), row("b:", "1:c,0:,"), row("c", "0123456789"), row(long(12), ",,,")}
	ends := map[int]int{0: 0}
	for i := range all {
		ends[len(tableBytes(all[:i+1]))] = i + 1
	}
	whole := tableBytes(all)
	begins := 0
	for i := range len(whole) + 1 {
		rows, isEnd := ends[i]
		if isEnd {
			wantUnpack(t, whole[:i], all[:rows], 0, api.OK)
			begins = i
		} else {
			wantUnpack(t, whole[:i], nil, begins, api.ErrForm)
		}
	}
}

func TestExamplesOfTables(t *testing.T) {
	wantPack(t, []api.Row{row("a", "xyz")}, "1:a,3:xyz,", api.OK)
	wantPack(t, []api.Row{row("b", ""), row("a", "")}, "", api.ErrTable)
	wantUnpack(t, "1:a,3:xyz,1:b,0:,", []api.Row{row("a", "xyz"), row("b", "")}, 0, api.OK)
	wantUnpack(t, "1:a,3:xyz,1:a,0:,", nil, 10, api.ErrForm)
	wantUnpack(t, "01:a,0:,", nil, 0, api.ErrForm)
	wantUnpack(t, "1:a,1:", nil, 0, api.ErrForm)
	wantUnpack(t, "", nil, 0, api.OK)
}
