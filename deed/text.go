package deed

import (
	"errors"
	"strings"

	"strongroom/api"
	"strongroom/base"
)

const (
	colon    = ":"
	heading  = "strongroom"
	dirAhead = "dir-" // stands ahead of a directory's word
)

// fault is why a text is none of a capability, and at which of its bytes.
type fault struct {
	at  int
	why api.Errno
}

func (f fault) Error() string { return f.why.Error() }

func (f fault) Unwrap() error { return f.why }

// number gives the number of an error, wherever it stands in it.
func number(err error) api.Errno {
	var e api.Errno
	errors.As(err, &e)
	return e
}

// place gives the place that an error tells; nought, if it tells none.
func place(err error) int {
	var f fault
	errors.As(err, &f)
	return f.at
}

// text gives a deed's text.
func (d deed) text() string {
	word := d.word()
	if d.dir {
		word = dirAhead + word
	}
	return strings.Join(append([]string{heading, word}, d.parts()...), colon)
}

// read gives the deed of a text.
func read(s string) (deed, error) {
	if len(s) > api.MaxCap {
		return deed{}, fault{at: api.MaxCap, why: api.ErrLong}
	}
	parts := partsOf(s)
	kind, err := kindOf(s, parts)
	if err != nil {
		return deed{}, err
	}
	g, err := kind.from(parts[2:])
	if err != nil {
		return deed{}, err
	}
	if !g.may() {
		return deed{}, api.ErrCap
	}
	return deed{grant: g, dir: kind.dir}, nil
}

// kindOf gives the kind that a text's words name, if the text has as many parts as that kind.
func kindOf(s string, parts []part) (deed, error) {
	if parts[0].text != heading {
		return deed{}, fault{at: 0, why: api.ErrWords}
	}
	if len(parts) == 1 {
		return deed{}, fault{at: len(s), why: api.ErrWords}
	}
	kind, is := kindNamed(parts[1].text)
	if !is {
		return deed{}, fault{at: parts[1].at, why: api.ErrWords}
	}
	want := 2 + len(kind.parts())
	if len(parts) < want {
		return deed{}, fault{at: len(s), why: api.ErrWords}
	}
	if len(parts) > want {
		return deed{}, fault{at: parts[want].at, why: api.ErrWords}
	}
	return kind, nil
}

// kindNamed gives the kind of a word, if the word is one's.
func kindNamed(word string) (deed, bool) {
	plain, dir := strings.CutPrefix(word, dirAhead)
	for _, g := range kinds() {
		if g.word() == plain {
			return deed{grant: g, dir: dir}, true
		}
	}
	return deed{}, false
}

// part is what stands between two colons of a text, and where it begins.
type part struct {
	text string
	at   int
}

// partsOf gives the parts of a text, at least one.
func partsOf(s string) []part {
	var parts []part
	at := 0
	for _, text := range base.Fields(s) {
		parts = append(parts, part{text: text, at: at})
		at += len(text) + len(colon)
	}
	return parts
}

// letters gives the bytes of a part of letters, if they are from so many to so many.
func (p part) letters(least, most int) ([]byte, error) {
	b, at, e := base.Bytes(p.text)
	if e != api.OK {
		return nil, fault{at: p.at + at, why: e}
	}
	if len(b) < least || len(b) > most {
		return nil, fault{at: p.at, why: api.ErrWords}
	}
	return b, nil
}

// number gives the number of a part of digits, if it is at most so much.
func (p part) number(most int) (int, error) {
	x, e := base.ReadNumber(p.text, most)
	if e != api.OK {
		return 0, fault{at: p.at, why: e}
	}
	return x, nil
}
