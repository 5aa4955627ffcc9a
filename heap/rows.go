package heap

// nowhere is the place of the loose row where there is none.
const nowhere = -1

// row is a thing with its ticket, and its place among the rows.
type row[T any] struct {
	ticket int
	thing  T
	at     int
}

// ahead tells whether the row at i comes out ahead of the one at j. The one with the greater ticket does so only if the order says it, so one question is enough for alike things, too.
func (h *Heap[T]) ahead(i, j int) bool {
	a, b := h.rows[i], h.rows[j]
	if a.ticket < b.ticket {
		return !h.less(b.thing, a.thing)
	}
	return h.less(a.thing, b.thing)
}

func (h *Heap[T]) swap(i, j int) {
	h.rows[i], h.rows[j] = h.rows[j], h.rows[i]
	h.rows[i].at, h.rows[j].at = i, j
}

// settle brings the row at a place, which may be nowhere, to where it belongs. The order that is asked for it may call the heap: such a call settles the row ahead of all else, so that behind each question a row that is loose no more is left alone.
func (h *Heap[T]) settle(at int) {
	h.loose = at
	h.rise()
	h.sink()
}

// rise brings the loose row up as far as it must go.
func (h *Heap[T]) rise() {
	for h.loose > 0 {
		at := h.loose
		above := (at - 1) / 2
		if !h.ahead(at, above) || h.loose != at {
			return
		}
		h.swap(at, above)
		h.loose = above
	}
}

// sink brings the loose row down as far as it must go, and then it is loose no more.
func (h *Heap[T]) sink() {
	for h.loose != nowhere {
		at := h.loose
		least := h.least(at)
		switch {
		case h.loose != at:
			return
		case least == at:
			h.loose = nowhere
		default:
			h.swap(at, least)
			h.loose = least
		}
	}
}

// least gives the place of the least of the loose row, at a place, and the two rows beneath it.
func (h *Heap[T]) least(at int) int {
	least := at
	for below := 2*at + 1; below <= 2*at+2 && below < len(h.rows); below++ {
		if h.ahead(below, least) {
			least = below
		}
	}
	return least
}

// take takes the row at a place out; the last one comes in its stead.
func (h *Heap[T]) take(at int) *row[T] {
	last := len(h.rows) - 1
	h.swap(at, last)
	gone := h.rows[last]
	clear(h.rows[last:])
	h.rows = h.rows[:last]
	delete(h.held, gone.ticket)
	if at < last {
		h.settle(at)
	}
	return gone
}

// copied gives a heap for one going through: the same things in rows of its own, which no ticket leads to.
func (h *Heap[T]) copied() *Heap[T] {
	c := &Heap[T]{less: h.less, loose: h.loose}
	for _, r := range h.rows {
		own := *r
		c.rows = append(c.rows, &own)
	}
	return c
}

// drained takes all rows out, the least first.
func (h *Heap[T]) drained() []*row[T] {
	h.settle(h.loose)
	out := make([]*row[T], 0, len(h.rows))
	for len(h.rows) > 0 {
		out = append(out, h.take(0))
	}
	return out
}
