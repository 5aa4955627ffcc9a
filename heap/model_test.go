package heap_test

import (
	"math/rand/v2"
	"runtime"
	"slices"
	"testing"
	"weak"

	"strongroom/api"
	"strongroom/heap"
)

// model is a heap as the words say it: a list by tickets, gone through for its least.
type model struct {
	in   []entry[thing]
	next int
}

func (m *model) place(ticket int) int {
	return slices.IndexFunc(m.in, func(x entry[thing]) bool { return x.ticket == ticket })
}

func (m *model) least() int {
	least := 0
	for i, x := range m.in {
		if x.x.key < m.in[least].x.key {
			least = i
		}
	}
	return least
}

func (m *model) inOrder() []entry[thing] {
	left := model{in: slices.Clone(m.in)}
	var out []entry[thing]
	for len(left.in) > 0 {
		at := left.least()
		out = append(out, left.in[at])
		left.in = slices.Delete(left.in, at, at+1)
	}
	return out
}

// watch is an order that says what it is asked of wrongly.
type watch struct {
	t     *testing.T
	here  map[int]bool // the names of the things that it may be asked of
	call  bool         // whether a call is under way
	asked int
}

func (w *watch) less(a, b thing) bool {
	w.asked++
	if !w.call {
		w.t.Error("asked while no call is under way")
	}
	if !w.here[a.name] || !w.here[b.name] {
		w.t.Error("asked of things that are not in the heap", a, b)
	}
	return a.key < b.key
}

// during does a call, for which a new thing may be asked of too; behind it those alone that are in the model.
func (w *watch) during(m *model, x thing, call func()) {
	w.here[x.name] = true
	w.call = true
	call()
	w.call = false
	clear(w.here)
	for _, x := range m.in {
		w.here[x.x.name] = true
	}
}

// tries is a heap beside its model.
type tries struct {
	t *testing.T
	r *rand.Rand
	h *heap.Heap[thing]
	m *model
	n int // how many things there were
}

func (s *tries) thing(keys int) thing {
	s.n++
	return thing{s.r.IntN(keys), s.n}
}

func (s *tries) push(x thing) {
	wantPush(s.t, s.h, x, s.m.next)
	s.m.in = append(s.m.in, entry[thing]{s.m.next, x})
	s.m.next++
}

func (s *tries) pop() {
	if len(s.m.in) == 0 {
		wantNone(s.t, s.h)
		return
	}
	at := s.m.least()
	wantNext(s.t, s.h, s.m.in[at].x)
	s.m.in = slices.Delete(s.m.in, at, at+1)
}

func (s *tries) drop() {
	ticket := s.r.IntN(s.m.next+2) - 1
	at := s.m.place(ticket)
	if at < 0 {
		wantDrop(s.t, s.h, ticket, thing{}, api.ErrTicket)
		return
	}
	wantDrop(s.t, s.h, ticket, s.m.in[at].x, api.OK)
	s.m.in = slices.Delete(s.m.in, at, at+1)
}

func (s *tries) turn(x thing) {
	ticket := s.r.IntN(s.m.next+2) - 1
	at := s.m.place(ticket)
	if at < 0 {
		wantTurn(s.t, s.h, ticket, x, api.ErrTicket)
		return
	}
	wantTurn(s.t, s.h, ticket, x, api.OK)
	s.m.in[at].x = x
}

// step does one call at random.
func (s *tries) step(x thing) {
	switch s.r.IntN(8) {
	case 0, 1, 2:
		s.push(x)
	case 3:
		s.pop()
	case 4, 5:
		s.drop()
	default:
		s.turn(x)
	}
}

// TestP17_2_3_4_7 holds heaps against their models, and what the order is asked of against P17.7.
func TestP17_2_3_4_7(t *testing.T) {
	for seed := range 60 {
		r := rand.New(rand.NewPCG(uint64(seed), 17))
		w := &watch{t: t, here: map[int]bool{}}
		s := &tries{t: t, r: r, h: begun(t, w.less), m: &model{}}
		keys := 1 + r.IntN(40)
		var before []entry[thing]
		all := s.h.All()
		for range 150 {
			x := s.thing(keys)
			w.during(s.m, x, func() { s.step(x) })
			w.during(s.m, thing{}, func() { wantList(t, "an earlier All", gone(all), before...) })
			before = s.m.inOrder()
			w.during(s.m, thing{}, func() { all = s.h.All() })
			if s.h.Len() != len(s.m.in) {
				t.Fatal(seed, s.h.Len(), len(s.m.in))
			}
		}
		if w.asked == 0 || t.Failed() {
			t.Fatal(seed, w.asked)
		}
	}
}

func TestP17_7AskedOfTheList(t *testing.T) {
	w := &watch{t: t, here: map[int]bool{}, call: true}
	var list []thing
	for i := range 100 {
		list = append(list, thing{i * 7 % 13, i + 1})
		w.here[i+1] = true
	}
	heap.Sorted(list, w.less)
	if w.asked == 0 {
		t.Error("never asked")
	}
}

// heavy is a thing whose going out of use can be seen.
type heavy struct {
	key  int
	text string
}

func heavies(n int) ([]*heavy, []weak.Pointer[heavy]) {
	var all []*heavy
	var seen []weak.Pointer[heavy]
	for i := range n {
		x := &heavy{i * 7 % 10, "a text"}
		all = append(all, x)
		seen = append(seen, weak.Make(x))
	}
	return all, seen
}

func TestNothingIsHeldThatIsGone(t *testing.T) {
	h := begun(t, func(a, b *heavy) bool { return a.key < b.key })
	all, seen := heavies(40)
	for _, x := range all {
		h.Push(x)
	}
	clear(all)
	for i := range 10 {
		h.Drop(i * 3)
		h.Turn(i*3+1, &heavy{text: "another text"})
	}
	held := map[*heavy]bool{}
	for range 15 {
		h.Pop()
	}
	for range h.All() {
		break
	}
	runtime.GC()
	for _, x := range gone(h.All()) {
		held[x.x] = true
	}
	for i, x := range seen {
		if p := x.Value(); p != nil && !held[p] {
			t.Error("still held:", i)
		}
	}
	if h.Len() != 15 || len(held) != 15 {
		t.Error(h.Len(), len(held))
	}
	popped(h)
	clear(held)
	runtime.GC()
	for i, x := range seen {
		if x.Value() != nil {
			t.Error("held by a heap that holds nothing:", i)
		}
	}
	wantNone(t, h)
}
