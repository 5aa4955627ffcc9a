package post

import (
	"bytes"
	"sync"

	"strongroom/api"
)

// Ask makes a batch of calls.
func (n *Net) Ask(batch []api.Call) ([]api.Answer, api.Errno) {
	if !n.made() {
		return nil, api.ErrNil
	}
	for _, c := range batch {
		if e := n.lacks(c.Server); e != api.OK {
			return nil, e
		}
	}
	sent := n.Tick()
	answers := n.inOrder(n.deliver(batch))
	n.record(sent, batch, answers)
	return answers, api.OK
}

// deliver lets each server that a batch asks do its calls on a goroutine of its own; what became of each call, by its place.
func (n *Net) deliver(batch []api.Call) []api.Answer {
	tick, done, over := n.Tick(), make(chan api.Answer), make(chan bool)
	var busy sync.WaitGroup
	for i, errands := range n.handOut(batch) {
		if errands == nil {
			continue
		}
		busy.Add(1)
		go func() {
			defer busy.Done()
			n.hosts[i].serve(tick, errands, done)
		}()
	}
	go func() {
		busy.Wait()
		close(over)
	}()
	return gather(len(batch), done, over)
}

// handOut lays the calls of each server on a channel of its own, closed behind the last one; a server that is not asked has none. Each channel has room for all its calls, since nobody takes them yet.
func (n *Net) handOut(batch []api.Call) []chan errand {
	calls := make([]int, len(n.hosts))
	for _, c := range batch {
		calls[c.Server]++
	}
	lines := make([]chan errand, len(n.hosts))
	for i, some := range calls {
		if some > 0 {
			lines[i] = make(chan errand, some)
		}
	}
	for place, c := range batch {
		lines[c.Server] <- errand{place, c.Bytes}
		calls[c.Server]--
		if calls[c.Server] == 0 {
			close(lines[c.Server])
		}
	}
	return lines
}

// gather lays what was done in the places of the batch, so that nobody sees in which order it came. What is done is not kept on its way: at the end nothing of it is still to be taken.
func gather(size int, done <-chan api.Answer, over <-chan bool) []api.Answer {
	found := make([]api.Answer, size)
	for {
		select {
		case a := <-done:
			found[a.Place] = a
		case <-over:
			return found
		}
	}
}

// inOrder lets the net go on to the end of a batch; its answers as they come, and behind them those without a reply.
func (n *Net) inOrder(found []api.Answer) []api.Answer {
	end := n.end(found)
	for _, a := range found {
		if a.Came {
			n.clock.Set(a.Tick, a)
		}
	}
	answers := make([]api.Answer, 0, len(found))
	for _, d := range n.goOn(end) {
		answers = append(answers, d.Value)
	}
	for _, a := range found {
		if !a.Came {
			a.Tick = end
			answers = append(answers, a)
		}
	}
	return answers
}

// end gives the tick at which a batch is over.
func (n *Net) end(found []api.Answer) int {
	last := n.Tick()
	for _, a := range found {
		if !a.Came {
			return later(n.Tick(), api.Patience)
		}
		last = max(last, a.Tick)
	}
	return last
}

// record puts the calls of a batch into the transcript, with what came of them.
func (n *Net) record(sent int, batch []api.Call, answers []api.Answer) {
	first := len(n.trace)
	for i, c := range batch {
		n.trace = append(n.trace, api.Exchange{Number: first + i, Server: c.Server, Sent: sent, Request: bytes.Clone(c.Bytes)})
	}
	for _, a := range answers {
		x := &n.trace[first+a.Place]
		x.Came, x.Tick, x.Reply = a.Came, a.Tick, bytes.Clone(a.Bytes)
	}
}
