package wire

import (
	"slices"

	"strongroom/api"
	"strongroom/octet"
)

// field takes a field from the left, and tells whether it may be.
type field func() bool

// source is what fields are taken from.
type source struct {
	from *octet.Reader
	all  int // how many bytes there were
}

func newSource(b []byte) source { return source{from: octet.NewReader(b), all: len(b)} }

// take takes fields, and tells whether they are there and may be; else the place of the first fault.
func (s source) take(fields ...field) (int, bool) {
	at, sound := 0, true
	for _, take := range fields {
		begin := s.all - s.from.Left()
		if !take() && sound {
			at, sound = begin, false
		}
	}
	// That bytes lack goes ahead of what is odd in those that are there.
	if s.from.End() == api.ErrEnd {
		return s.all, false
	}
	return at, sound
}

// ends tells whether just so many bytes are left; else the place of the fault: of too few their end, of too many where they should have ended.
func (s source) ends(n int) (int, bool) {
	left := s.from.Left()
	return s.all - max(left-n, 0), left == n
}

// requestReader takes a request's fields.
type requestReader struct {
	source
	request api.Request
	size    int // how many Bytes there must be
}

func (r *requestReader) read() (int, bool) {
	// The kind is taken alone: where it is none, nothing is known of what is behind it.
	if at, is := r.take(r.kind); !is {
		return at, false
	}
	if at, is := r.take(r.fields()...); !is {
		return at, false
	}
	if at, is := r.ends(r.size); !is {
		return at, false
	}
	r.request.Bytes = r.from.Bytes(r.size)
	return 0, true
}

// fields gives what stands between the kind and Bytes.
func (r *requestReader) fields() []field {
	list := []field{r.index}
	switch r.request.Kind {
	case api.ReqStore:
		list = append(list, r.number)
		fallthrough // behind the number it goes on as a renewal does
	case api.ReqRenew:
		list = append(list, r.who, r.until)
	case api.ReqFetch:
		list = append(list, r.number, r.at, r.length)
	case api.ReqRelease:
		list = append(list, r.who)
	}
	if r.request.Kind == api.ReqStore {
		list = append(list, r.bytes)
	}
	return list
}

func (r *requestReader) kind() bool {
	r.request.Kind = api.ReqKind(r.from.Byte())
	return isRequest(r.request.Kind)
}

func (r *requestReader) index() bool {
	copy(r.request.Index[:], r.from.Bytes(len(r.request.Index)))
	return true
}

func (r *requestReader) number() bool {
	r.request.Number = int(r.from.Byte())
	return isNumber(r.request.Number)
}

func (r *requestReader) who() bool {
	r.request.Lease.Who = r.from.Word()
	return true
}

// until leans on a number above every int becoming one below nought, which is no tick.
func (r *requestReader) until() bool {
	r.request.Lease.Until = int(r.from.Long())
	return isTick(r.request.Lease.Until)
}

func (r *requestReader) at() bool {
	r.request.At = int(r.from.Word())
	return isAt(r.request.At)
}

func (r *requestReader) length() bool {
	r.request.Len = int(r.from.Word())
	return isFetchLen(r.request.Len)
}

// bytes takes the number of Bytes.
func (r *requestReader) bytes() bool {
	r.size = int(r.from.Word())
	return isShareLen(r.size)
}

// replyReader takes a reply's fields.
type replyReader struct {
	source
	reply api.Reply
	many  int // how many Numbers there must be
	size  int // how many Bytes there must be
}

func (r *replyReader) read() (int, bool) {
	if at, is := r.take(r.kind); !is {
		return at, false
	}
	if at, is := r.take(r.fields()...); !is {
		return at, false
	}
	// A number that is odd goes ahead of those that lack, so only those are taken that are there.
	here := min(r.many, r.from.Left())
	if at, is := r.take(slices.Repeat([]field{r.number}, here)...); !is {
		return at, false
	}
	if at, is := r.ends(r.many - here + r.size); !is {
		return at, false
	}
	r.reply.Bytes = r.from.Bytes(r.size)
	return 0, true
}

// fields gives what stands between the kind and Numbers or Bytes.
func (r *replyReader) fields() []field {
	switch r.reply.Kind {
	case api.RepNumbers:
		return []field{r.numbers}
	case api.RepBytes:
		return []field{r.bytes}
	}
	return nil
}

func (r *replyReader) kind() bool {
	r.reply.Kind = api.RepKind(r.from.Byte())
	return isReply(r.reply.Kind)
}

// numbers takes how many Numbers there are: one byte can't say more than MaxN.
func (r *replyReader) numbers() bool {
	r.many = int(r.from.Byte())
	return true
}

func (r *replyReader) number() bool {
	n := int(r.from.Byte())
	sound := follows(r.reply.Numbers, n)
	r.reply.Numbers = append(r.reply.Numbers, n)
	return sound
}

// bytes takes the number of Bytes.
func (r *replyReader) bytes() bool {
	r.size = int(r.from.Word())
	return isFetchLen(r.size)
}
