package base_test

import (
	"bytes"
	"fmt"
	"slices"
	"strings"
	"testing"

	"strongroom/api"
	"strongroom/base"
)

const plainBytes = "abcdefghijklmnopqrstuvwxyzABCDEFGHIJKLMNOPQRSTUVWXYZ0123456789-._"

// textOf is what a byte is written as in a name.
func textOf(c byte) string {
	if strings.IndexByte(plainBytes, c) >= 0 {
		return string([]byte{c})
	}
	return fmt.Sprintf("%%%02x", c)
}

func nameOf(b []byte) string {
	if len(b) == 0 {
		return "%"
	}
	var s strings.Builder
	for _, c := range b {
		s.WriteString(textOf(c))
	}
	return s.String()
}

// unnamed reckons what Unescape answers: at each place it looks for a byte whose text stands there.
func unnamed(s string) ([]byte, int, api.Errno) {
	if s == "%" {
		return nil, 0, api.OK
	}
	if s == "" {
		return nil, 0, api.ErrText
	}
	var b []byte
	at := 0
look:
	for at < len(s) {
		for c := range 256 {
			if text := textOf(byte(c)); strings.HasPrefix(s[at:], text) {
				b = append(b, byte(c))
				at += len(text)
				continue look
			}
		}
		return nil, at, api.ErrText
	}
	return b, 0, api.OK
}

func checkUnescape(t *testing.T, s string) {
	t.Helper()
	want, place, f := unnamed(s)
	got, at, e := base.Unescape(s)
	if !bytes.Equal(got, want) || at != place || e != f {
		t.Fatalf("%q: %q, %d, %d; want %q, %d, %d", s, got, at, e, want, place, f)
	}
}

func TestP10_5Escape(t *testing.T) {
	for _, list := range lists() {
		b, stays := roomy(list)
		want := nameOf(list)
		got := base.Escape(b)
		if got != want || !stays() {
			t.Fatalf("%q: %s, not %s; or an argument was changed", list, got, want)
		}
		spoil(b)
		if got != want {
			t.Fatalf("%q: an answer is a part of an argument", list)
		}
	}
	if got := base.Escape([]byte(plainBytes)); got != plainBytes {
		t.Error(got)
	}
}

func TestP10_5Unescape(t *testing.T) {
	for _, list := range lists() {
		if len(list) < 1000 {
			checkUnescape(t, nameOf(list))
		}
	}
	for _, s := range texts("a4Ff%0/ \xc3", 4) {
		checkUnescape(t, s)
	}
}

func TestP10_5UnescapeOfAnyDigits(t *testing.T) {
	for x := range 256 {
		for y := range 256 {
			pair := string([]byte{byte(x), byte(y)})
			got, at, e := base.Unescape("b%" + pair)
			value, ok := hexOf(byte(x), byte(y))
			if ok && strings.IndexByte(plainBytes, value) < 0 {
				if string(got) != "b"+string([]byte{value}) || at != 0 || e != api.OK {
					t.Fatalf("b%%%q: %q, %d, %d", pair, got, at, e)
				}
			} else if len(got) != 0 || at != 1 || e != api.ErrText {
				t.Fatalf("b%%%q: %q, %d, %d", pair, got, at, e)
			}
		}
	}
}

// hexOf reckons the byte of two small hexadecimal digits.
func hexOf(x, y byte) (byte, bool) {
	const digits = "0123456789abcdef"
	a, b := strings.IndexByte(digits, x), strings.IndexByte(digits, y)
	return byte(16*a + b), a >= 0 && b >= 0
}

func TestP10_5UnescapeOfOneByte(t *testing.T) {
	for c := range 256 {
		one := string([]byte{byte(c)})
		for _, s := range []string{one, one + "a", "a" + one, "aa" + one, "%20" + one, one + "%20", "%2" + one, "%" + one, "%" + one + "0", "%20%2" + one + "0"} {
			checkUnescape(t, s)
		}
	}
}

func TestP10_5Faults(t *testing.T) {
	for s, place := range map[string]int{
		"%%": 0, "%%%": 0, "%25%": 3, "%a": 0, "%a%": 0, "a%2": 1, "%20%": 3, "%20%2": 3, "%20 ": 3, "%20%2G": 3, "%20%g0": 3,
		"%C3": 0, "%c3%A9": 3, "%2d": 0, "%2e": 0, "%5f": 0, "a%2d%": 1, "%30": 0, "%39": 0, "%5a": 0, "%7a": 0, "%61": 0,
		"a:b": 1, "a/b": 1, "~": 0, "ab+": 2, "\u00e9": 0, "a\u00e9%": 1, "a\x00": 1, "% 20": 0, "%2 0": 0, "%+1": 0, "%0x": 0, " %": 0,
	} {
		if b, at, e := base.Unescape(s); len(b) != 0 || at != place || e != api.ErrText {
			t.Errorf("%q: %q, %d, %d", s, b, at, e)
		}
	}
	long := strings.Repeat("a%20", 5000)
	if b, at, e := base.Unescape(long + "%2"); len(b) != 0 || at != len(long) || e != api.ErrText {
		t.Error(len(b), at, e)
	}
}

func TestP10_5MemoryOfItsOwn(t *testing.T) {
	s := "a%20b"
	one, _, _ := base.Unescape(s)
	spoil(one)
	if other, _, _ := base.Unescape(s); string(other) != "a b" || s != "a%20b" {
		t.Error(other, s)
	}
	none, _, _ := base.Unescape("%")
	spoil(none)
	if b, at, e := base.Unescape("%"); len(b) != 0 || at != 0 || e != api.OK {
		t.Error(b, at, e)
	}
}

// fieldsOf cuts a text byte by byte.
func fieldsOf(s string) []string {
	out := []string{""}
	for i := range len(s) {
		if s[i] == ':' {
			out = append(out, "")
		} else {
			out[len(out)-1] += s[i : i+1]
		}
	}
	return out
}

func TestP10_6Fields(t *testing.T) {
	all := append(texts("a:;\xff", 6), strings.Repeat(":", 3000), strings.Repeat("ab:", 3000), "strongroom:read:aa:bb", "\u00e9:\u00e9", " : ", "\x00:\n", "::")
	for _, s := range all {
		got := base.Fields(s)
		if !slices.Equal(got, fieldsOf(s)) || len(got) != strings.Count(s, ":")+1 || strings.Join(got, ":") != s {
			t.Fatalf("%q: %q", s, got)
		}
	}
	for c := range 256 {
		s := "a" + string([]byte{byte(c)}) + "b"
		if got := base.Fields(s); !slices.Equal(got, fieldsOf(s)) {
			t.Errorf("%q: %q", s, got)
		}
	}
}

func TestP10_6FieldsStandAlone(t *testing.T) {
	one := base.Fields("a::b")
	for i := range one {
		one[i] = "x"
	}
	if other := base.Fields("a::b"); !slices.Equal(other, []string{"a", "", "b"}) {
		t.Errorf("%q", other)
	}
}

func TestP10_7NamesThereAndBack(t *testing.T) {
	for _, b := range lists() {
		s := base.Escape(b)
		if got, at, e := base.Unescape(s); !bytes.Equal(got, b) || at != 0 || e != api.OK {
			t.Fatalf("%q: %q, %d, %d", b, got, at, e)
		}
	}
	taken := 0
	for _, s := range append(texts("a%2fF:", 6), texts("%0257", 6)...) {
		b, _, e := base.Unescape(s)
		if e != api.OK {
			continue
		}
		taken++
		if base.Escape(b) != s {
			t.Fatalf("%q: %q", s, b)
		}
	}
	if taken < 1000 {
		t.Error(taken)
	}
}

func TestP10_8OneTextEach(t *testing.T) {
	of := map[string]string{}
	once := func(kind string, b []byte, s string) {
		t.Helper()
		if was, ok := of[kind+s]; ok && was != string(b) {
			t.Fatalf("%s: %q of %q and of %q", kind, s, was, b)
		}
		of[kind+s] = string(b)
	}
	for _, b := range append(lists(), shortLists()...) {
		once("letters ", b, base.Letters(b))
		once("name ", b, base.Escape(b))
	}
}

// shortLists gives all lists of two bytes, and those of three and four noughts and ones.
func shortLists() [][]byte {
	var out [][]byte
	for x := range 1 << 16 {
		out = append(out, []byte{byte(x >> 8), byte(x)})
	}
	for _, s := range texts("\x00\x01", 4) {
		out = append(out, []byte(s))
	}
	return out
}

func TestP10_8OneListEach(t *testing.T) {
	lettersOf, namesOf := map[string]string{}, map[string]string{}
	for _, s := range append(texts(theAlphabet, 3), texts("aqe47", 6)...) {
		if b, _, e := base.Bytes(s); e == api.OK {
			if was, ok := lettersOf[string(b)]; ok && was != s {
				t.Fatalf("%x: of %q and of %q", b, was, s)
			}
			lettersOf[string(b)] = s
		}
	}
	for _, s := range texts("a%2f6F1", 6) {
		if b, _, e := base.Unescape(s); e == api.OK {
			if was, ok := namesOf[string(b)]; ok {
				t.Fatalf("%q: of %q and of %q", b, was, s)
			}
			namesOf[string(b)] = s
		}
	}
}

func TestP10_8NoColonNoStrokeNotEmpty(t *testing.T) {
	for _, b := range lists() {
		for _, s := range []string{base.Letters(b), base.Escape(b)} {
			if strings.ContainsAny(s, ":/") {
				t.Fatalf("%q: %s", b, s)
			}
		}
		if base.Escape(b) == "" || (base.Letters(b) == "") != (len(b) == 0) {
			t.Fatalf("%q: an empty text", b)
		}
	}
	for x := range 2000 {
		if s, _ := base.Number(x * x * x); s == "" || strings.ContainsAny(s, ":/") {
			t.Fatal(x, s)
		}
	}
}

func TestExamplesOfNames(t *testing.T) {
	if s := base.Escape([]byte("a b/\u00e9")); s != "a%20b%2f%c3%a9" {
		t.Error(s)
	}
	for _, none := range [][]byte{nil, {}, make([]byte, 0, 5)} {
		if s := base.Escape(none); s != "%" {
			t.Error(s)
		}
	}
	if b, at, e := base.Unescape("%"); len(b) != 0 || at != 0 || e != api.OK {
		t.Error(b, at, e)
	}
	for _, x := range []struct {
		s  string
		at int
	}{{"", 0}, {"a%41", 1}, {"a%4", 1}, {"%2F", 0}, {"a%", 1}, {"x y", 1}} {
		if b, at, e := base.Unescape(x.s); len(b) != 0 || at != x.at || e != api.ErrText {
			t.Error(x.s, b, at, e)
		}
	}
	if l := base.Fields("a::b"); !slices.Equal(l, []string{"a", "", "b"}) {
		t.Errorf("%q", l)
	}
	if l := base.Fields(""); !slices.Equal(l, []string{""}) {
		t.Errorf("%q", l)
	}
}
