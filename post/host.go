package post

import (
	"bytes"

	"strongroom/api"
	"strongroom/server"
	"strongroom/wire"
)

// host is a server, and what will become of the calls to it. While a batch is under way nobody but its own goroutine touches it.
type host struct {
	server *server.Server
	row    []api.Fate
}

// errand is a call on its way to its server.
type errand struct {
	place   int
	request []byte
}

func newHost(s api.Store, row []api.Fate) (*host, api.Errno) {
	loaded, e := server.Load(s)
	if e != api.OK {
		return nil, e
	}
	h := &host{server: loaded}
	for _, f := range row {
		f.Bytes = bytes.Clone(f.Bytes)
		h.row = append(h.row, f)
	}
	return h, api.OK
}

// serve does the errands as they come in, and tells what becomes of each.
func (h *host) serve(tick int, errands <-chan errand, done chan<- api.Answer) {
	for r := range errands {
		done <- h.meet(tick, r)
	}
}

// meet does with an errand what its fate dictates. When a batch is over, which an answer without a reply tells, no server can know.
func (h *host) meet(tick int, r errand) api.Answer {
	f := h.nextFate()
	reply, sent := h.reply(tick, f, r.request)
	delay := min(max(f.Delay, 1), api.MaxDelay)
	if !sent || delay > api.Patience || len(reply) > api.MaxReply {
		return api.Answer{Place: r.place}
	}
	return api.Answer{Place: r.place, Came: true, Tick: later(tick, delay), Bytes: reply}
}

// nextFate takes the fate of the next call out of the row.
func (h *host) nextFate() api.Fate {
	if len(h.row) == 0 {
		return api.Fate{Kind: api.FateHonest, Delay: 1}
	}
	f := h.row[0]
	h.row[0] = api.Fate{} // its bytes are the answer's from now on
	h.row = h.row[1:]
	return f
}

// reply gives the bytes that go back, and whether any do; the request is done where the fate lets it reach the server.
func (h *host) reply(tick int, f api.Fate, request []byte) ([]byte, bool) {
	switch f.Kind {
	case api.FateHonest:
		return h.do(tick, request), true
	case api.FateLie:
		return f.Bytes, true
	case api.FateLose:
		h.do(tick, request)
	}
	return nil, false
}

// do does a request at the server's own tick, which it does not refuse; the bytes of the reply, which is always one that may be.
func (h *host) do(tick int, request []byte) []byte {
	reply := api.Reply{Kind: api.RepRefused}
	if q, _, e := wire.Request(request); e == api.OK {
		reply, _ = h.server.Do(tick, q)
	}
	b, _ := wire.PutReply(reply)
	return b
}
