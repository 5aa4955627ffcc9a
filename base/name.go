package base

import (
	"strings"

	"strongroom/api"
)

// What a byte is in a name.
const (
	neither = iota
	plain
	sign
)

const (
	hexDigits = "0123456789abcdef"
	noBytes   = "%" // a name is never empty, though it may be that of no bytes
)

// kinds gives for each byte what it is.
func kinds() [256]int {
	var of [256]int
	of['-'], of['.'], of['_'], of['%'] = plain, plain, plain, sign
	for i := range 26 {
		of['a'+i], of['A'+i] = plain, plain
	}
	for i := range 10 {
		of['0'+i] = plain
	}
	return of
}

// Escape gives any bytes as a text of letters, digits and a few signs.
func Escape(b []byte) string {
	if len(b) == 0 {
		return noBytes
	}
	of := kinds()
	out := make([]byte, 0, len(b))
	for i := range len(b) {
		c := b[i]
		if of[c] == plain {
			out = append(out, c)
		} else {
			out = append(out, '%', hexDigits[c>>4], hexDigits[c&15])
		}
	}
	return string(out)
}

// Unescape gives the bytes of such a text; else the place of the fault.
func Unescape(s string) ([]byte, int, api.Errno) {
	switch s {
	case "":
		return nil, 0, api.ErrText
	case noBytes:
		return nil, 0, api.OK
	}
	of := kinds()
	out := make([]byte, 0, len(s))
	at := 0
	for at < len(s) {
		c := s[at]
		switch of[c] {
		case neither:
			goto fault
		case plain:
			out = append(out, c)
			at++
			continue
		}
		c = 0
		for i := range 2 {
			if len(s)-at < i+2 {
				goto fault
			}
			value := strings.IndexByte(hexDigits, s[at+1+i])
			if value < 0 {
				goto fault
			}
			c = c<<4 | byte(value)
		}
		// A plain byte has one text, and that is itself.
		if of[c] == plain {
			goto fault
		}
		out = append(out, c)
		at += 3
	}
	return out, 0, api.OK
fault:
	return nil, at, api.ErrText
}

// Fields cuts a text at each colon.
func Fields(s string) []string {
	var out []string
	from := 0
	for i := range len(s) {
		if s[i] == ':' {
			out = append(out, strings.Clone(s[from:i]))
			from = i + 1
		}
	}
	return append(out, strings.Clone(s[from:]))
}
