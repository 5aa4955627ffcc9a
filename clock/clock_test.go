package clock_test

import (
	"iter"
	"math"
	"slices"
	"testing"

	"strongroom/api"
	"strongroom/clock"
)

// text is a text that waits, or waited.
type text = api.Due[string]

// noTicks gives numbers that are no ticks.
func noTicks() []int {
	return []int{-1, -2, -api.MaxTick, math.MinInt, api.MaxTick + 1, api.MaxTick + 2, 1 << 41, math.MaxInt}
}

func begun[T any](t *testing.T, tick int) *clock.Clock[T] {
	t.Helper()
	c, e := clock.New[T](tick)
	if c == nil || e != api.OK {
		t.Fatalf("New(%d): %v, %d", tick, c, e)
	}
	return c
}

func wantSet[T any](t *testing.T, c *clock.Clock[T], tick int, x T, want int) {
	t.Helper()
	if n, e := c.Set(tick, x); n != want || e != api.OK {
		t.Fatalf("Set(%d, %v): %d, %d instead of %d", tick, x, n, e, want)
	}
}

func wantNoSet[T any](t *testing.T, c *clock.Clock[T], tick int, want api.Errno) {
	t.Helper()
	var x T
	if n, e := c.Set(tick, x); n != 0 || e != want {
		t.Errorf("Set(%d, ..): %d, %d instead of %d", tick, n, e, want)
	}
}

func wantDrop[T comparable](t *testing.T, c *clock.Clock[T], number int, want T, wantErr api.Errno) {
	t.Helper()
	if x, e := c.Drop(number); x != want || e != wantErr {
		t.Errorf("Drop(%d): %v, %d instead of %v, %d", number, x, e, want, wantErr)
	}
}

// wantTake holds what Next and then Take tell against the thing that is due first.
func wantTake[T comparable](t *testing.T, c *clock.Clock[T], want api.Due[T]) {
	t.Helper()
	now, n := c.Now(), c.Len()
	for range 2 {
		if tick, is := c.Next(); tick != want.Tick || !is || c.Now() != now || c.Len() != n {
			t.Errorf("Next: %d, %v instead of %d", tick, is, want.Tick)
		}
	}
	if d, is := c.Take(); d != want || !is || c.Now() != want.Tick || c.Len() != n-1 {
		t.Errorf("Take: %v, %v instead of %v; now it is %d", d, is, want, c.Now())
	}
}

// wantNone holds a clock, made or not, against one at a tick for which nothing waits.
func wantNone[T comparable](t *testing.T, c *clock.Clock[T], now int) {
	t.Helper()
	for range 2 {
		if tick, is := c.Next(); tick != 0 || is {
			t.Errorf("Next of nothing: %d, %v", tick, is)
		}
		if d, is := c.Take(); d != (api.Due[T]{}) || is {
			t.Errorf("Take of nothing: %v, %v", d, is)
		}
	}
	if c.Now() != now || c.Len() != 0 || c.All() == nil {
		t.Errorf("now it is %d instead of %d, %d wait", c.Now(), now, c.Len())
	}
	wantList(t, "All of nothing", c.All())
}

func wantUntil[T comparable](t *testing.T, c *clock.Clock[T], tick int, want ...api.Due[T]) {
	t.Helper()
	n := c.Len()
	got, e := c.Until(tick)
	if !slices.Equal(got, want) || e != api.OK || c.Now() != tick || c.Len() != n-len(want) {
		t.Errorf("Until(%d): %v, %d instead of %v; now it is %d", tick, got, e, want, c.Now())
	}
}

func wantNoUntil[T any](t *testing.T, c *clock.Clock[T], tick int, want api.Errno) {
	t.Helper()
	if got, e := c.Until(tick); len(got) != 0 || e != want {
		t.Errorf("Until(%d): %v, %d instead of %d", tick, got, e, want)
	}
}

func wantList[T comparable](t *testing.T, what string, all iter.Seq[T], want ...T) {
	t.Helper()
	if got := slices.Collect(all); !slices.Equal(got, want) {
		t.Errorf("%s: %v instead of %v", what, got, want)
	}
}

// example gives the clock of the chapter's examples, behind the first of them.
func example(t *testing.T) *clock.Clock[string] {
	t.Helper()
	c := begun[string](t, 5)
	wantSet(t, c, 7, "a", 0)
	wantSet(t, c, 6, "b", 1)
	wantSet(t, c, 7, "c", 2)
	wantSet(t, c, 5, "d", 3)
	return c
}

// inExample is what waits in that clock.
func inExample() []text {
	return []text{{Number: 3, Tick: 5, Value: "d"}, {Number: 1, Tick: 6, Value: "b"}, {Number: 0, Tick: 7, Value: "a"}, {Number: 2, Tick: 7, Value: "c"}}
}

func TestExamples(t *testing.T) {
	c := example(t)
	wantNoSet(t, c, 4, api.ErrPast)
	wantNoSet(t, c, -1, api.ErrArg)
	if tick, is := c.Next(); tick != 5 || !is {
		t.Error(tick, is)
	}
	wantList(t, "All", c.All(), inExample()...)
	wantTake(t, c, text{Number: 3, Tick: 5, Value: "d"})
	wantUntil(t, c, 6, text{Number: 1, Tick: 6, Value: "b"})
	wantSet(t, c, 6, "f", 4)
	wantDrop(t, c, 0, "a", api.OK)
	wantDrop(t, c, 0, "", api.ErrTimer)
	wantTake(t, c, text{Number: 4, Tick: 6, Value: "f"})
	wantTake(t, c, text{Number: 2, Tick: 7, Value: "c"})
	wantNone(t, c, 7)
	wantNoUntil(t, c, 6, api.ErrPast)
	wantUntil(t, c, 9)
	wantNone(t, c, 9)
}

func TestP18_1New(t *testing.T) {
	for _, tick := range []int{0, 1, 5, 1 << 31, 1 << 32, api.MaxTick - 1, api.MaxTick} {
		wantNone(t, begun[string](t, tick), tick)
		wantNone(t, begun[*int](t, tick), tick)
		wantNone(t, begun[any](t, tick), tick)
	}
	for _, tick := range noTicks() {
		if c, e := clock.New[string](tick); c != nil || e != api.ErrArg {
			t.Error(tick, c, e)
		}
	}
}

func TestP18_1Len(t *testing.T) {
	c := begun[int](t, 3)
	for i := range 100 {
		wantSet(t, c, 3+i*7%10, i, i)
		if c.Len() != i+1 || c.Now() != 3 {
			t.Fatal(i, c.Len(), c.Now())
		}
	}
	wantNoSet(t, c, 2, api.ErrPast)
	wantNoSet(t, c, -1, api.ErrArg)
	if c.Len() != 100 {
		t.Error(c.Len())
	}
}

func TestP18_1Apart(t *testing.T) {
	one, other := begun[string](t, 1), begun[string](t, 1)
	wantSet(t, one, 4, "a", 0)
	wantSet(t, other, 2, "b", 0) // each clock counts for itself
	wantTake(t, other, text{Tick: 2, Value: "b"})
	wantTake(t, one, text{Tick: 4, Value: "a"})
	wantNone(t, one, 4)
	wantNone(t, other, 2)
}

func TestP18_2Set(t *testing.T) {
	c := begun[string](t, 5)
	for i, tick := range []int{5, 5, 6, 1 << 32, api.MaxTick, 5} { // Now, later ones, the last one
		wantSet(t, c, tick, "x", i)
	}
	was := slices.Collect(c.All())
	for _, tick := range []int{0, 1, 4} {
		wantNoSet(t, c, tick, api.ErrPast)
		wantList(t, "behind a refusal", c.All(), was...)
	}
	for _, tick := range noTicks() {
		wantNoSet(t, c, tick, api.ErrArg)
		wantList(t, "behind a refusal", c.All(), was...)
	}
	wantSet(t, c, 5, "x", 6) // what is refused has no number
	if c.Now() != 5 {
		t.Error(c.Now())
	}
}

func TestP18_2PastGoesWithNow(t *testing.T) {
	c := begun[string](t, 0)
	wantSet(t, c, 0, "a", 0)
	wantSet(t, c, 3, "b", 1)
	wantTake(t, c, text{Tick: 0, Value: "a"})
	wantSet(t, c, 0, "c", 2)
	wantUntil(t, c, 2, text{Number: 2, Tick: 0, Value: "c"})
	wantNoSet(t, c, 1, api.ErrPast)
	wantSet(t, c, 2, "d", 3)
	wantTake(t, c, text{Number: 3, Tick: 2, Value: "d"})
	wantTake(t, c, text{Number: 1, Tick: 3, Value: "b"})
	wantNoSet(t, c, 2, api.ErrPast)
	wantSet(t, c, 3, "e", 4)
	wantUntil(t, c, api.MaxTick, text{Number: 4, Tick: 3, Value: "e"})
	wantNoSet(t, c, api.MaxTick-1, api.ErrPast)
	wantSet(t, c, api.MaxTick, "f", 5)
}

func TestP18_2NumbersGoOn(t *testing.T) {
	c := begun[string](t, 0)
	wantSet(t, c, 1, "a", 0)
	wantDrop(t, c, 0, "a", api.OK)
	wantSet(t, c, 1, "b", 1)
	wantTake(t, c, text{Number: 1, Tick: 1, Value: "b"})
	wantSet(t, c, 1, "c", 2)
	wantUntil(t, c, 1, text{Number: 2, Tick: 1, Value: "c"})
	wantNoSet(t, c, 0, api.ErrPast)
	wantDrop(t, c, 3, "", api.ErrTimer)
	wantNone(t, c, 1)
	wantList(t, "All", c.All())
	wantSet(t, c, 1, "d", 3)
	wantDrop(t, c, 3, "d", api.OK)
}

func TestP18_3Drop(t *testing.T) {
	for n := 1; n <= 20; n++ {
		for number := range n {
			c := begun[int](t, 2)
			var want []api.Due[int]
			for i := range n {
				d := api.Due[int]{Number: i, Tick: 2 + i*7%5, Value: 100 + i}
				wantSet(t, c, d.Tick, d.Value, i)
				want = append(want, d)
			}
			wantDrop(t, c, number, 100+number, api.OK)
			if c.Len() != n-1 || c.Now() != 2 {
				t.Error(n, number, c.Len(), c.Now())
			}
			wantDrop(t, c, number, 0, api.ErrTimer)
			want = slices.Delete(want, number, number+1)
			slices.SortStableFunc(want, func(a, b api.Due[int]) int { return a.Tick - b.Tick })
			wantList(t, "the others", c.All(), want...)
			wantUntil(t, c, 9, want...)
		}
	}
}

func TestP18_3Refused(t *testing.T) {
	c := example(t)
	wantTake(t, c, text{Number: 3, Tick: 5, Value: "d"})
	wantUntil(t, c, 6, text{Number: 1, Tick: 6, Value: "b"})
	wantDrop(t, c, 2, "c", api.OK)
	for _, number := range []int{1, 2, 3, 4, 5, -1, 1 << 32, math.MinInt, math.MaxInt} {
		wantDrop(t, c, number, "", api.ErrTimer)
		wantList(t, "behind a refusal", c.All(), text{Number: 0, Tick: 7, Value: "a"})
	}
	if c.Now() != 6 || c.Len() != 1 {
		t.Error(c.Now(), c.Len())
	}
	wantDrop(t, begun[string](t, 0), 0, "", api.ErrTimer)
}

func TestP18_3DropOfTheFirst(t *testing.T) {
	c := example(t)
	wantDrop(t, c, 3, "d", api.OK) // Now stays, and what is due first is another one
	if tick, is := c.Next(); tick != 6 || !is || c.Now() != 5 {
		t.Error(tick, is, c.Now())
	}
	wantSet(t, c, 5, "g", 4)
	wantTake(t, c, text{Number: 4, Tick: 5, Value: "g"})
}

func TestP18_4OneTick(t *testing.T) {
	c := begun[int](t, 9)
	for i := range 300 {
		wantSet(t, c, 9+i%3, -i, i)
	}
	for tick := range 3 {
		for i := tick; i < 300; i += 3 {
			wantTake(t, c, api.Due[int]{Number: i, Tick: 9 + tick, Value: -i})
		}
	}
	wantNone(t, c, 11)
}

func TestP18_4Leaps(t *testing.T) {
	c := begun[string](t, 0)
	wantSet(t, c, api.MaxTick, "last", 0)
	wantSet(t, c, 1<<33, "late", 1)
	wantTake(t, c, text{Number: 1, Tick: 1 << 33, Value: "late"})
	wantSet(t, c, 1<<33, "now", 2)
	wantTake(t, c, text{Number: 2, Tick: 1 << 33, Value: "now"})
	wantTake(t, c, text{Number: 0, Tick: api.MaxTick, Value: "last"})
	wantNone(t, c, api.MaxTick)
}

// TestP18_4ZeroThings: the zero thing at the tick 0 under the number 0 is a thing that waits all the same.
func TestP18_4ZeroThings(t *testing.T) {
	c := begun[int](t, 0)
	wantSet(t, c, 0, 0, 0)
	wantTake(t, c, api.Due[int]{})
	wantNone(t, c, 0)
	p := begun[*int](t, 0)
	wantSet(t, p, 0, nil, 0)
	wantSet(t, p, 0, nil, 1)
	wantDrop(t, p, 0, nil, api.OK)
	wantDrop(t, p, 0, nil, api.ErrTimer)
	wantUntil(t, p, 0, api.Due[*int]{Number: 1})
	wantNone(t, p, 0)
}

func TestP18_5Until(t *testing.T) {
	all := inExample()
	for tick, n := range map[int]int{5: 1, 6: 2, 7: 4, 8: 4, api.MaxTick: 4} {
		c := example(t)
		wantUntil(t, c, tick, all[:n]...)
		wantUntil(t, c, tick) // they wait no more
		wantList(t, "what is left", c.All(), all[n:]...)
		wantUntil(t, c, api.MaxTick, all[n:]...)
		wantNone(t, c, api.MaxTick)
	}
}

func TestP18_5Now(t *testing.T) {
	c := begun[string](t, 4)
	wantUntil(t, c, 4)
	wantUntil(t, c, 6) // there is nothing, and the tick goes on
	wantSet(t, c, 6, "a", 0)
	wantSet(t, c, 8, "b", 1)
	wantUntil(t, c, 6, text{Number: 0, Tick: 6, Value: "a"})
	wantUntil(t, c, 7)
	wantNoSet(t, c, 6, api.ErrPast)
	wantUntil(t, c, 9, text{Number: 1, Tick: 8, Value: "b"})
	wantNone(t, c, 9)
}

func TestP18_5Refused(t *testing.T) {
	c := example(t)
	for _, tick := range []int{0, 1, 4} {
		wantNoUntil(t, c, tick, api.ErrPast)
	}
	for _, tick := range noTicks() {
		wantNoUntil(t, c, tick, api.ErrArg)
	}
	wantList(t, "behind refusals", c.All(), inExample()...)
	if c.Now() != 5 || c.Len() != 4 {
		t.Error(c.Now(), c.Len())
	}
	wantUntil(t, c, api.MaxTick, inExample()...)
	wantNoUntil(t, c, api.MaxTick-1, api.ErrPast)
	wantNoUntil(t, c, api.MaxTick+1, api.ErrArg)
	wantNoUntil(t, c, -1, api.ErrArg)
}

func TestP18_5OwnMemory(t *testing.T) {
	c := example(t)
	all := c.All()
	first, _ := c.Until(6)
	second, _ := c.Until(7)
	for _, l := range [][]text{first[:cap(first)], second[:cap(second)]} {
		for i := range l {
			l[i] = text{Number: -1, Tick: -1, Value: "written over"}
		}
	}
	wantList(t, "an earlier All", all, inExample()...)
	wantSet(t, c, 7, "g", 4)
	third, _ := c.Until(7)
	if !slices.Equal(third, []text{{Number: 4, Tick: 7, Value: "g"}}) {
		t.Error(third)
	}
	if slices.ContainsFunc(first, func(d text) bool { return d.Number != -1 }) {
		t.Error("an earlier answer was written to", first)
	}
}

func TestP18_6AllIsAsItWas(t *testing.T) {
	c := example(t)
	all := c.All()
	for _, change := range []func(){
		func() {},
		func() { c.Set(5, "e") },
		func() { c.Set(9, "f") },
		func() { c.Drop(2) },
		func() { c.Take() },
		func() { c.Until(6) },
		func() { c.Until(7) },
		func() { c.Set(7, "g") },
		func() { c.Until(api.MaxTick) },
	} {
		var met []text
		for d := range all {
			met = append(met, d)
			if len(met) == 2 {
				change()
			}
		}
		wantList(t, "while it is changed", slices.Values(met), inExample()...)
		wantList(t, "behind a change", all, inExample()...)
	}
	wantNone(t, c, api.MaxTick)
}

func TestP18_6AllOfNothingIsAsItWas(t *testing.T) {
	c := begun[string](t, 5)
	all := c.All()
	wantSet(t, c, 5, "a", 0)
	wantList(t, "what waited when All was called", all)
	wantList(t, "what waits now", c.All(), text{Tick: 5, Value: "a"})
}

func TestP18_6LeftEarly(t *testing.T) {
	c := example(t)
	all := c.All()
	for n := 1; n <= 4; n++ {
		var met []text
		for d := range all {
			met = append(met, d)
			if len(met) == n {
				break
			}
		}
		wantList(t, "left early", slices.Values(met), inExample()[:n]...)
	}
	var outer []text
	for d := range all {
		outer = append(outer, d)
		wantList(t, "one within the other", all, inExample()...)
		for range all {
			break
		}
	}
	wantList(t, "round it", slices.Values(outer), inExample()...)
	wantList(t, "All changes nothing", c.All(), inExample()...)
	wantUntil(t, c, 7, inExample()...)
}

// TestP18_6InSteps goes through two iterators of one All by turns.
func TestP18_6InSteps(t *testing.T) {
	c := example(t)
	all := c.All()
	one, endOne := iter.Pull(all)
	other, endOther := iter.Pull(all)
	defer endOne()
	defer endOther()
	for _, want := range inExample() {
		if d, is := one(); d != want || !is {
			t.Error(d, is)
		}
		c.Take()
		if d, is := other(); d != want || !is {
			t.Error(d, is)
		}
	}
	if _, is := one(); is {
		t.Error("more than waited")
	}
}

// notMade gives clocks that New did not make.
func notMade(t *testing.T) []*clock.Clock[string] {
	copied := *example(t)
	return []*clock.Clock[string]{nil, {}, new(clock.Clock[string]), &copied}
}

func TestP18_7NotMade(t *testing.T) {
	for i, c := range notMade(t) {
		for range 2 {
			wantNone(t, c, 0)
			for _, n := range append(noTicks(), 0, 1, 4, 5, 6, api.MaxTick) { // ErrNil is the first of all
				wantNoSet(t, c, n, api.ErrNil)
				wantNoUntil(t, c, n, api.ErrNil)
				wantDrop(t, c, n, "", api.ErrNil)
			}
		}
		if t.Failed() {
			t.Fatal(i)
		}
	}
}

func TestP18_7CopyChangesNothing(t *testing.T) {
	c := example(t)
	copied := *c
	copied.Set(5, "e")
	copied.Drop(0)
	copied.Take()
	copied.Until(7)
	wantSet(t, c, 6, "f", 4)
	wantUntil(t, c, 6, text{Number: 3, Tick: 5, Value: "d"}, text{Number: 1, Tick: 6, Value: "b"}, text{Number: 4, Tick: 6, Value: "f"})
}

// TestThingsOfAnyType: what waits is never held against anything, so it may be what == does not take.
func TestThingsOfAnyType(t *testing.T) {
	c := begun[any](t, 0)
	wantSet(t, c, 1, any([]int{1}), 0)
	wantSet(t, c, 1, any(map[int]int{}), 1)
	wantSet(t, c, 0, any(nil), 2)
	f := begun[func() int](t, 0)
	for i := range 5 {
		wantSet(t, f, 9-i, func() int { return i }, i)
	}
	due, e := f.Until(7)
	if e != api.OK || len(due) != 3 || due[0].Value() != 4 || due[2].Value() != 2 {
		t.Error(due, e)
	}
	l, e := c.Until(1)
	if e != api.OK || len(l) != 3 || l[0].Value != nil || l[1].Value.([]int)[0] != 1 {
		t.Error(l, e)
	}
	one := begun[struct{}](t, 0)
	wantSet(t, one, 2, struct{}{}, 0)
	wantTake(t, one, api.Due[struct{}]{Tick: 2})
}
