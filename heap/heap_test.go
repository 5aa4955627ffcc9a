package heap_test

import (
	"iter"
	"math"
	"slices"
	"testing"

	"strongroom/api"
	"strongroom/heap"
)

func less(a, b int) bool { return a < b }

// thing has a key that it is ordered by, and a name by which alike ones are told apart.
type thing struct{ key, name int }

func byKey(a, b thing) bool { return a.key < b.key }

// entry is a ticket with its thing.
type entry[T any] struct {
	ticket int
	x      T
}

// begun gives a heap into which a list was pushed.
func begun[T any](t *testing.T, less func(a, b T) bool, l ...T) *heap.Heap[T] {
	t.Helper()
	h, e := heap.New(less)
	if h == nil || e != api.OK {
		t.Fatalf("New: %v, %d", h, e)
	}
	for i, x := range l {
		wantPush(t, h, x, i)
	}
	return h
}

func wantPush[T any](t *testing.T, h *heap.Heap[T], x T, want int) {
	t.Helper()
	if n, e := h.Push(x); n != want || e != api.OK {
		t.Fatalf("Push(%v): %d, %d instead of %d", x, n, e, want)
	}
}

// popped takes all things out of a heap.
func popped[T any](h *heap.Heap[T]) []T {
	var out []T
	for x, is := h.Pop(); is; x, is = h.Pop() {
		out = append(out, x)
	}
	return out
}

// gone gives what an iterator goes through.
func gone[T any](all iter.Seq2[int, T]) []entry[T] {
	var out []entry[T]
	for ticket, x := range all {
		out = append(out, entry[T]{ticket, x})
	}
	return out
}

func wantList[T comparable](t *testing.T, what string, got []T, want ...T) {
	t.Helper()
	if !slices.Equal(got, want) {
		t.Errorf("%s: %v instead of %v", what, got, want)
	}
}

// wantNext holds what Peek and then Pop tell against the least thing.
func wantNext[T comparable](t *testing.T, h *heap.Heap[T], want T) {
	t.Helper()
	n := h.Len()
	for range 2 {
		if x, is := h.Peek(); x != want || !is || h.Len() != n {
			t.Errorf("Peek: %v, %v instead of %v", x, is, want)
		}
	}
	if x, is := h.Pop(); x != want || !is || h.Len() != n-1 {
		t.Errorf("Pop: %v, %v instead of %v; %d are left of %d", x, is, want, h.Len(), n)
	}
}

// wantNone holds a heap, made or not, against one that holds nothing.
func wantNone[T comparable](t *testing.T, h *heap.Heap[T]) {
	t.Helper()
	var none T
	for range 2 {
		if x, is := h.Peek(); x != none || is {
			t.Errorf("Peek of nothing: %v, %v", x, is)
		}
		if x, is := h.Pop(); x != none || is {
			t.Errorf("Pop of nothing: %v, %v", x, is)
		}
	}
	all := h.All()
	if h.Len() != 0 || all == nil || len(gone(all)) != 0 {
		t.Errorf("%d things in a heap without any", h.Len())
	}
}

func wantDrop[T comparable](t *testing.T, h *heap.Heap[T], ticket int, want T, wantErr api.Errno) {
	t.Helper()
	if x, e := h.Drop(ticket); x != want || e != wantErr {
		t.Errorf("Drop(%d): %v, %d instead of %v, %d", ticket, x, e, want, wantErr)
	}
}

func wantTurn[T comparable](t *testing.T, h *heap.Heap[T], ticket int, x T, want api.Errno) {
	t.Helper()
	if e := h.Turn(ticket, x); e != want {
		t.Errorf("Turn(%d, %v): %d instead of %d", ticket, x, e, want)
	}
}

// notMade gives heaps that New did not make.
func notMade(t *testing.T) []*heap.Heap[int] {
	of := begun(t, less, 4, 2, 3)
	copied := *of
	return []*heap.Heap[int]{nil, {}, new(heap.Heap[int]), &copied}
}

func TestP17_1New(t *testing.T) {
	if h, e := heap.New[int](nil); h != nil || e != api.ErrLess {
		t.Error(h, e)
	}
	if h, e := heap.New[[]thing](nil); h != nil || e != api.ErrLess {
		t.Error(h, e)
	}
	wantNone(t, begun(t, less))
	wantNone(t, begun(t, byKey))
	wantNone(t, begun(t, func(a, b any) bool { return true }))
}

func TestP17_1Push(t *testing.T) {
	h := begun(t, less)
	for i := range 300 {
		wantPush(t, h, i*7%100, i)
		if h.Len() != i+1 {
			t.Fatal(i, h.Len())
		}
	}
	one, other := begun(t, less, 1, 2), begun(t, less, 1)
	wantPush(t, other, 5, 1) // each heap counts for itself
	wantPush(t, one, 5, 2)
}

func TestP17_1TicketsGoOn(t *testing.T) {
	h := begun(t, less, 5, 3)
	wantNext(t, h, 3)
	wantPush(t, h, 3, 2)
	wantDrop(t, h, 2, 3, api.OK)
	wantPush(t, h, 3, 3)
	wantTurn(t, h, 3, 8, api.OK)
	wantPush(t, h, 3, 4)
	wantDrop(t, h, 9, 0, api.ErrTicket)
	wantTurn(t, h, 9, 0, api.ErrTicket)
	wantPush(t, h, 3, 5)
	for range h.All() {
	}
	popped(h)
	h.Pop()
	h.Peek()
	wantPush(t, h, 3, 6)
	wantList(t, "what is left", gone(h.All()), entry[int]{6, 3})
}

func TestP17_2Examples(t *testing.T) {
	h := begun(t, less, 5, 3, 5, 4)
	for _, want := range []entry[int]{{1, 3}, {3, 4}, {0, 5}, {2, 5}} {
		wantList(t, "the first", gone(h.All())[:1], want)
		wantNext(t, h, want.x)
	}
	wantNone(t, h)
}

func TestP17_2Alike(t *testing.T) {
	alike := begun(t, func(a, b thing) bool { return false })
	h := begun(t, byKey)
	for i := range 200 {
		wantPush(t, h, thing{i % 3, i}, i)
		wantPush(t, alike, thing{-i, i}, i)
	}
	for key := range 3 {
		for i := key; i < 200; i += 3 {
			wantNext(t, h, thing{key, i})
		}
	}
	for i := range 200 {
		wantNext(t, alike, thing{-i, i})
	}
	wantNone(t, h)
	wantNone(t, alike)
}

func TestP17_2InTurns(t *testing.T) {
	h := begun(t, less, 8)
	wantNext(t, h, 8)
	wantNone(t, h)
	h.Push(math.MaxInt)
	h.Push(math.MinInt)
	h.Push(0)
	wantNext(t, h, math.MinInt)
	h.Push(-1)
	wantNext(t, h, -1)
	wantNext(t, h, 0)
	wantNext(t, h, math.MaxInt)
	wantNone(t, h)
}

func TestP17_2ZeroThings(t *testing.T) {
	h := begun(t, less, 0, 0)
	wantNext(t, h, 0)
	wantDrop(t, h, 1, 0, api.OK)
	wantDrop(t, h, 1, 0, api.ErrTicket)
	p := begun(t, func(a, b *int) bool { return false }, nil, nil)
	wantNext(t, p, nil)
	wantNext(t, p, nil)
	wantNone(t, p)
}

func TestP17_3Examples(t *testing.T) {
	h := begun(t, less, 5, 3, 4)
	wantDrop(t, h, 1, 3, api.OK)
	wantDrop(t, h, 1, 0, api.ErrTicket)
	wantTurn(t, h, 0, 1, api.OK)
	wantNext(t, h, 1)
	wantPush(t, h, 9, 3)
	wantList(t, "what is left", popped(h), 4, 9)
}

func TestP17_3Drop(t *testing.T) {
	for n := 1; n <= 20; n++ {
		for ticket := range n {
			h := begun(t, byKey)
			var want []thing
			for i := range n {
				x := thing{i * 7 % 5, i}
				h.Push(x)
				want = append(want, x)
			}
			wantDrop(t, h, ticket, want[ticket], api.OK)
			want = slices.Delete(want, ticket, ticket+1)
			slices.SortStableFunc(want, func(a, b thing) int { return a.key - b.key })
			if h.Len() != n-1 {
				t.Error(n, ticket, h.Len())
			}
			wantDrop(t, h, ticket, thing{}, api.ErrTicket)
			wantTurn(t, h, ticket, thing{}, api.ErrTicket)
			wantList(t, "the others", popped(h), want...)
		}
	}
}

func TestP17_3Turn(t *testing.T) {
	for n := 1; n <= 20; n++ {
		for ticket := range n {
			for key := -1; key <= 6; key++ {
				h := begun(t, byKey)
				var want []thing
				for i := range n {
					x := thing{i * 3 % 5, i}
					h.Push(x)
					want = append(want, x)
				}
				want[ticket] = thing{key, 99}
				wantTurn(t, h, ticket, want[ticket], api.OK)
				if h.Len() != n {
					t.Error(n, ticket, h.Len())
				}
				slices.SortStableFunc(want, func(a, b thing) int { return a.key - b.key })
				wantList(t, "with the new one", popped(h), want...)
				wantTurn(t, h, ticket, thing{}, api.ErrTicket)
			}
		}
	}
}

func TestP17_3Refused(t *testing.T) {
	h := begun(t, less, 5, 3, 5, 4, 1)
	wantNext(t, h, 1)
	wantDrop(t, h, 2, 5, api.OK)
	was := gone(h.All())
	for _, ticket := range []int{2, 4, 5, 6, -1, math.MinInt, math.MaxInt, 1 << 32} {
		wantDrop(t, h, ticket, 0, api.ErrTicket)
		wantTurn(t, h, ticket, 0, api.ErrTicket)
		wantList(t, "behind a refusal", gone(h.All()), was...)
	}
	wantDrop(t, begun(t, less), 0, 0, api.ErrTicket)
	wantTurn(t, begun(t, less), 0, 0, api.ErrTicket)
}

func TestP17_3TurnAgain(t *testing.T) {
	h := begun(t, less, 1, 2, 3)
	for i := range 50 {
		wantTurn(t, h, i%3, i*17%40, api.OK)
	}
	wantTurn(t, h, 1, 7, api.OK)
	wantTurn(t, h, 1, 8, api.OK)
	wantDrop(t, h, 1, 8, api.OK)
	wantList(t, "the others", gone(h.All()), entry[int]{0, 48 * 17 % 40}, entry[int]{2, 47 * 17 % 40})
}

func TestP17_4Examples(t *testing.T) {
	h := begun(t, less, 5, 3)
	all := h.All()
	var met []entry[int]
	for ticket, x := range all {
		met = append(met, entry[int]{ticket, x})
		h.Push(1)
	}
	wantList(t, "with 1 pushed meanwhile", met, entry[int]{1, 3}, entry[int]{0, 5})
	wantList(t, "again", gone(all), entry[int]{1, 3}, entry[int]{0, 5})
	wantList(t, "now", gone(h.All()), entry[int]{2, 1}, entry[int]{3, 1}, entry[int]{1, 3}, entry[int]{0, 5})
}

func TestP17_4AllIsAsItWas(t *testing.T) {
	h := begun(t, byKey, thing{2, 0}, thing{1, 1}, thing{2, 2}, thing{0, 3})
	want := []entry[thing]{{3, thing{0, 3}}, {1, thing{1, 1}}, {0, thing{2, 0}}, {2, thing{2, 2}}}
	all := h.All()
	for _, change := range []func(){
		func() {},
		func() { h.Push(thing{1, 9}) },
		func() { h.Turn(1, thing{7, 7}) },
		func() { h.Drop(2) },
		func() { h.Pop() },
		func() { popped(h) },
		func() { h.Push(thing{0, 8}) },
	} {
		var met []entry[thing]
		for ticket, x := range all {
			met = append(met, entry[thing]{ticket, x})
			if len(met) == 2 {
				change()
			}
		}
		wantList(t, "while it is changed", met, want...)
		wantList(t, "behind a change", gone(all), want...)
	}
	wantList(t, "at last", gone(h.All()), entry[thing]{5, thing{0, 8}})
}

func TestP17_4AllLeftEarly(t *testing.T) {
	h := begun(t, less, 4, 2, 3, 1)
	all := h.All()
	want := []entry[int]{{3, 1}, {1, 2}, {2, 3}, {0, 4}}
	for n := 1; n <= 4; n++ {
		var met []entry[int]
		for ticket, x := range all {
			met = append(met, entry[int]{ticket, x})
			if len(met) == n {
				break
			}
		}
		wantList(t, "left early", met, want[:n]...)
	}
	var outer []entry[int]
	for ticket, x := range all {
		outer = append(outer, entry[int]{ticket, x})
		wantList(t, "one within the other", gone(all), want...)
	}
	wantList(t, "round it", outer, want...)
	if h.Len() != 4 {
		t.Error(h.Len())
	}
	wantList(t, "the heap", popped(h), 1, 2, 3, 4)
}

func TestP17_5Examples(t *testing.T) {
	tens := func(a, b int) bool { return a/10 < b/10 }
	got, e := heap.Sorted([]int{31, 20, 30, 21}, tens)
	wantList(t, "by tens", got, 20, 21, 31, 30)
	if e != api.OK {
		t.Error(e)
	}
	for _, l := range [][]int{nil, {}, {1}, {2, 1}} {
		if got, e := heap.Sorted(l, nil); len(got) != 0 || e != api.ErrLess {
			t.Error(l, got, e)
		}
	}
}

func TestP17_5(t *testing.T) {
	for n := range 70 {
		for keys := 1; keys <= 50; keys += 7 {
			list := make([]thing, n)
			for i := range list {
				list[i] = thing{(i*i*31 + i*keys*17) % 101 % keys, i}
			}
			want := slices.Clone(list)
			slices.SortStableFunc(want, func(a, b thing) int { return a.key - b.key })
			got, e := heap.Sorted(list, byKey)
			wantList(t, "sorted", got, want...)
			if e != api.OK {
				t.Fatal(n, keys, e)
			}
		}
	}
}

func TestP17_5Texts(t *testing.T) {
	for _, l := range [][]string{nil, {}, {""}, {"b", "a", "", "ab", "a"}} {
		want := slices.Sorted(slices.Values(l))
		got, e := heap.Sorted(l, func(a, b string) bool { return a < b })
		wantList(t, "texts", got, want...)
		if e != api.OK {
			t.Error(l, e)
		}
	}
}

func TestP17_5OwnMemory(t *testing.T) {
	all := []int{5, 3, 4, 1, 99, 98, 97}
	list := all[:4]
	got, _ := heap.Sorted(list, less)
	again, _ := heap.Sorted(list, less)
	wantList(t, "the argument and its spare room", all, 5, 3, 4, 1, 99, 98, 97)
	for i := range got[:cap(got)] {
		got[:cap(got)][i] = -1
	}
	wantList(t, "the argument", all, 5, 3, 4, 1, 99, 98, 97)
	wantList(t, "the other answer", again, 1, 3, 4, 5)
	for i := range all {
		all[i] = 0
	}
	wantList(t, "the other answer", again, 1, 3, 4, 5)
}

func TestP17_7NotMade(t *testing.T) {
	for i := range notMade(t) {
		h := notMade(t)[i]
		wantNone(t, h)
		for _, ticket := range []int{0, 1, -1, math.MaxInt} {
			wantDrop(t, h, ticket, 0, api.ErrNil)
			wantTurn(t, h, ticket, 5, api.ErrNil)
			if n, e := h.Push(5); n != 0 || e != api.ErrNil {
				t.Error(i, n, e)
			}
		}
		wantNone(t, h)
	}
}

func TestP17_7CopyChangesNothing(t *testing.T) {
	h := begun(t, less, 4, 2, 3)
	copied := *h
	copied.Push(1)
	copied.Pop()
	copied.Drop(0)
	copied.Turn(1, 9)
	wantPush(t, h, 5, 3)
	wantList(t, "the heap itself", popped(h), 2, 3, 4, 5)
}

func TestP17_8(t *testing.T) {
	for n := range 120 {
		list := make([]thing, n)
		for i := range list {
			list[i] = thing{i * 7919 % 101 % (1 + n/3), i}
		}
		want, e := heap.Sorted(list, byKey)
		if e != api.OK || len(want) != n {
			t.Fatal(n, e, want)
		}
		wantList(t, "popped", popped(begun(t, byKey, list...)), want...)
	}
}

func TestMany(t *testing.T) {
	n := 100_000
	list := make([]thing, n)
	h := begun(t, byKey)
	for i := range list {
		list[i] = thing{i * 7919 % 1009, i}
		h.Push(list[i])
	}
	sorted, _ := heap.Sorted(list, byKey)
	slices.SortStableFunc(list, func(a, b thing) int { return a.key - b.key })
	if !slices.Equal(sorted, list) {
		t.Error("Sorted of many")
	}
	for i := 0; i < n; i += 2 {
		wantDrop(t, h, i, thing{i * 7919 % 1009, i}, api.OK)
	}
	list = slices.DeleteFunc(list, func(x thing) bool { return x.name%2 == 0 })
	if !slices.Equal(popped(h), list) {
		t.Error("what is left of many")
	}
}
