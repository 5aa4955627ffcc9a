package heap_test

import (
	"math"
	"math/rand/v2"
	"slices"
	"testing"

	"strongroom/api"
	"strongroom/heap"
)

// noOrders gives functions that are no orders.
func noOrders() []func(a, b thing) bool {
	r := rand.New(rand.NewPCG(6, 17))
	asked := 0
	return []func(a, b thing) bool{
		func(a, b thing) bool { return true },
		func(a, b thing) bool { return a.key <= b.key },
		func(a, b thing) bool { return a.key != b.key },
		func(a, b thing) bool { return (a.key-b.key+30)%3 == 1 }, // round and round
		func(a, b thing) bool { return a.key+5 < b.key },         // alike things that are alike to unlike ones
		func(a, b thing) bool { return r.IntN(2) == 0 },
		func(a, b thing) bool { asked++; return asked%2 == 0 },
		func(a, b thing) bool { asked++; return (a.key < b.key) == (asked%100 < 50) },
	}
}

// counted tells how often each thing is there.
func counted(list []thing) map[thing]int {
	out := map[thing]int{}
	for _, x := range list {
		out[x]++
	}
	return out
}

func wantSame(t *testing.T, what string, got, want []thing) {
	t.Helper()
	a, b := counted(got), counted(want)
	for x := range a {
		if a[x] != b[x] {
			t.Errorf("%s: %v is there %d times instead of %d", what, x, a[x], b[x])
		}
	}
	if len(got) != len(want) {
		t.Errorf("%s: %d things instead of %d", what, len(got), len(want))
	}
}

func TestP17_6NoOrder(t *testing.T) {
	for _, less := range noOrders() {
		for n := range 40 {
			var list []thing
			for i := range n {
				list = append(list, thing{i * 7 % 10, i / 2})
			}
			got, e := heap.Sorted(list, less)
			wantSame(t, "sorted", got, list)
			h := begun(t, less, list...)
			var met []thing
			for ticket, x := range h.All() {
				if x != list[ticket] {
					t.Error("gone through under another ticket", ticket, x)
				}
				met = append(met, x)
			}
			wantSame(t, "gone through", met, list)
			x, _ := h.Peek()
			out := popped(h)
			wantSame(t, "popped", out, list)
			if e != api.OK || n > 0 && x != out[0] {
				t.Error("what is peeked stands first", e, x, out)
			}
		}
	}
}

func TestP17_6TicketsWithNoOrder(t *testing.T) {
	for _, less := range noOrders() {
		r := rand.New(rand.NewPCG(3, 17))
		h := begun(t, less)
		in := map[int]thing{}
		next := 0
		for i := range 2000 {
			x, ticket := thing{r.IntN(10), i}, r.IntN(next+1)
			was, is := in[ticket]
			switch r.IntN(4) {
			case 0, 1:
				wantPush(t, h, x, next)
				in[next] = x
				next++
			case 2:
				e := h.Turn(ticket, x)
				if (e == api.OK) != is || !is && e != api.ErrTicket {
					t.Error(ticket, is, e)
				}
				if is {
					in[ticket] = x
				}
			default:
				got, e := h.Drop(ticket)
				if got != was || (e == api.OK) != is || !is && e != api.ErrTicket {
					t.Error(ticket, is, got, was, e)
				}
				delete(in, ticket)
			}
			if h.Len() != len(in) {
				t.Fatal(h.Len(), len(in))
			}
		}
		for ticket, x := range h.All() {
			if in[ticket] != x {
				t.Error(ticket, x, in[ticket])
			}
		}
	}
}

func TestP17_6NotANumber(t *testing.T) {
	list := []float64{2, math.NaN(), 1, math.Inf(-1), math.NaN(), 0}
	got, e := heap.Sorted(list, func(a, b float64) bool { return a < b })
	slices.Sort(got)
	slices.Sort(list)
	if e != api.OK || !slices.EqualFunc(got, list, func(a, b float64) bool { return a == b || a != a && b != b }) {
		t.Error(got, e)
	}
}

func TestP17_6ListChangedMeanwhile(t *testing.T) {
	list := []thing{{3, 0}, {2, 1}, {1, 2}, {0, 3}}
	was := slices.Clone(list)
	got, e := heap.Sorted(list, func(a, b thing) bool {
		clear(list)
		return a.key < b.key
	})
	slices.Reverse(was)
	wantList(t, "sorted", got, was...)
	if e != api.OK {
		t.Error(e)
	}
}

// caller is an order that calls the heap while it is asked by it, with at most so many calls within one another.
type caller struct {
	t     *testing.T
	h     *heap.Heap[thing]
	deep  int
	call  func(c *caller)
	calls int
	in    []thing // what was pushed or turned in, or was to be
	out   []thing // what was popped or dropped
	turns int     // each of them makes one thing more in than comes out, whether it is refused or not
}

func (c *caller) less(a, b thing) bool {
	if c.deep > 0 {
		c.deep--
		c.calls++
		c.call(c)
		c.deep++
	}
	return a.key < b.key
}

func (c *caller) thing() thing {
	x := thing{len(c.in) * 7 % 11, len(c.in)}
	c.in = append(c.in, x)
	return x
}

func (c *caller) push() {
	if _, e := c.h.Push(c.thing()); e != api.OK {
		c.t.Error(e)
	}
}

func (c *caller) pop() {
	if x, is := c.h.Pop(); is {
		c.out = append(c.out, x)
	}
}

func (c *caller) drop(ticket int) {
	if x, e := c.h.Drop(ticket); e == api.OK {
		c.out = append(c.out, x)
	}
}

func (c *caller) turn(ticket int) {
	c.turns++
	c.h.Turn(ticket, c.thing())
}

// quietly does something while the order calls nothing.
func (c *caller) quietly(do func()) {
	deep := c.deep
	c.deep = 0
	do()
	c.deep = deep
}

// wantOrder holds a going through against the order, of alike things by tickets.
func wantOrder(t *testing.T, all []entry[thing]) {
	t.Helper()
	for i := 1; i < len(all); i++ {
		a, b := all[i-1], all[i]
		if a.x.key > b.x.key || a.x.key == b.x.key && a.ticket >= b.ticket {
			t.Error("out of order:", a, b)
		}
	}
}

// end holds what is left, and how it comes, against what went in and out.
func (c *caller) end() {
	c.t.Helper()
	c.deep = 0
	left := gone(c.h.All())
	wantOrder(c.t, left)
	if c.h.Len() != len(left) {
		c.t.Error(c.h.Len(), len(left))
	}
	for _, x := range left {
		wantNext(c.t, c.h, x.x)
		c.out = append(c.out, x.x)
	}
	wantNone(c.t, c.h)
	if len(c.out) != len(c.in)-c.turns {
		c.t.Error("in, turned, out:", len(c.in), c.turns, len(c.out))
	}
	met := counted(c.out)
	for x, times := range met {
		if times > 1 || !slices.Contains(c.in, x) {
			c.t.Error("out though it was not in, or twice", x, times)
		}
	}
	for _, x := range c.in {
		if c.turns == 0 && met[x] == 0 {
			c.t.Error("in and never out", x)
		}
	}
}

// calls gives what an order may call from within.
func calls() map[string]func(c *caller) {
	return map[string]func(c *caller){
		"push":     func(c *caller) { c.push() },
		"pop":      func(c *caller) { c.pop() },
		"drop":     func(c *caller) { c.drop(len(c.in) - 1) },
		"drop all": func(c *caller) { c.quietly(func() { dropAll(c) }) },
		"turn":     func(c *caller) { c.turn(c.calls % len(c.in)) },
		"peek":     func(c *caller) { c.h.Peek() },
		"pop and push": func(c *caller) {
			c.pop()
			c.push()
		},
		"all": func(c *caller) {
			n := c.h.Len()
			all := gone(c.h.All())
			wantOrder(c.t, all)
			if len(all) != n {
				c.t.Error("gone through from within:", len(all), n)
			}
		},
	}
}

func dropAll(c *caller) {
	for i := range len(c.in) + 1 {
		c.drop(i)
	}
}

func TestP17_6OrderThatCalls(t *testing.T) {
	outer := []func(c *caller){
		func(c *caller) { c.push() },
		func(c *caller) { c.pop() },
		func(c *caller) { c.drop(len(c.in) / 3) },
		func(c *caller) { c.turn(len(c.in) / 2) },
		func(c *caller) { c.turn(0) },
		func(c *caller) { c.h.Peek() },
		func(c *caller) { c.pop() },
	}
	for word, call := range calls() {
		t.Run(word, func(t *testing.T) {
			for n := range 30 {
				for deep := range 3 {
					c := &caller{t: t, deep: deep, call: call}
					c.h = begun(t, c.less)
					c.quietly(func() {
						for range n {
							c.push()
						}
					})
					for _, do := range outer {
						do(c)
					}
					if deep > 0 && n > 9 && c.calls == 0 {
						t.Error("the order called nothing")
					}
					c.end()
				}
			}
		})
	}
}

func TestP17_6OrderThatCallsAtRandom(t *testing.T) {
	for seed := range 200 {
		r := rand.New(rand.NewPCG(uint64(seed), 17))
		some := func(c *caller) {
			switch r.IntN(9) {
			case 0, 1:
				c.push()
			case 2:
				c.pop()
			case 3:
				c.drop(r.IntN(len(c.in) + 1))
			case 4:
				c.turn(r.IntN(len(c.in) + 1))
			case 5:
				c.h.Peek()
			case 6:
				c.quietly(func() { wantOrder(c.t, gone(c.h.All())) })
			}
		}
		c := &caller{t: t, deep: 3, call: some}
		c.h = begun(t, c.less)
		for range 12 {
			c.push()
			some(c)
		}
		c.end()
		if t.Failed() {
			t.Fatal(seed)
		}
	}
}
