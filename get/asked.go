package get

import (
	"bytes"

	"strongroom/api"
	"strongroom/candidates"
)

// asked is whoever can be asked as post's nets can, and counts its calls: a net, or what is told of one.
type asked interface {
	candidates.Net
	Made() int
}

// told is a net of which is told, call by call, what came of it.
type told struct {
	servers int
	trace   []api.Exchange
	used    int
}

func (t *told) Servers() int { return t.servers }

// Made tells how many calls were made, which is the place of the one that is due next.
func (t *told) Made() int { return t.used }

// Ask answers a batch, if just its calls are told next.
func (t *told) Ask(batch []api.Call) ([]api.Answer, api.Errno) {
	answers := make([]api.Answer, len(batch))
	for i, call := range batch {
		if t.used == len(t.trace) {
			return nil, api.ErrTrace
		}
		x := t.trace[t.used]
		if x.Server != call.Server || !bytes.Equal(x.Request, call.Bytes) {
			return nil, api.ErrTrace
		}
		answers[i] = api.Answer{Place: i, Came: x.Came, Bytes: x.Reply}
		t.used++
	}
	return answers, api.OK
}
