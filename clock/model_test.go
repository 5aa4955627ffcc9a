package clock_test

import (
	"math/rand/v2"
	"runtime"
	"slices"
	"testing"
	"weak"

	"strongroom/api"
	"strongroom/clock"
)

// due is a number that waits, or waited.
type due = api.Due[int]

// model is a clock as the words say it: a list by numbers, gone through for what is due first.
type model struct {
	now, next int
	in        []due
}

func (m *model) first() int {
	first := 0
	for i, d := range m.in {
		if d.Tick < m.in[first].Tick {
			first = i
		}
	}
	return first
}

func (m *model) take() due {
	at := m.first()
	d := m.in[at]
	m.in = slices.Delete(m.in, at, at+1)
	m.now = d.Tick
	return d
}

func (m *model) until(tick int) []due {
	var out []due
	for len(m.in) > 0 && m.in[m.first()].Tick <= tick {
		out = append(out, m.take())
	}
	m.now = tick
	return out
}

func (m *model) inOrder() []due {
	left := model{in: slices.Clone(m.in)}
	return left.until(api.MaxTick)
}

// tries is a clock beside its model.
type tries struct {
	t   *testing.T
	r   *rand.Rand
	c   *clock.Clock[int]
	m   *model
	out map[int]int // how often each number came out
}

// tick gives one at random round the clock's, seldom one that is none.
func (s *tries) tick() int {
	if s.r.IntN(20) == 0 {
		return noTicks()[s.r.IntN(len(noTicks()))]
	}
	return s.m.now - 2 + s.r.IntN(12)
}

// refusal gives what a tick is refused with.
func (s *tries) refusal(tick int) api.Errno {
	switch {
	case tick < 0 || tick > api.MaxTick:
		return api.ErrArg
	case tick < s.m.now:
		return api.ErrPast
	}
	return api.OK
}

func (s *tries) set() {
	tick := s.tick()
	if e := s.refusal(tick); e != api.OK {
		wantNoSet(s.t, s.c, tick, e)
		return
	}
	d := due{Number: s.m.next, Tick: tick, Value: s.r.Int()}
	wantSet(s.t, s.c, tick, d.Value, d.Number)
	s.m.in = append(s.m.in, d)
	s.m.next++
}

func (s *tries) drop() {
	number := s.r.IntN(s.m.next+2) - 1
	at := slices.IndexFunc(s.m.in, func(d due) bool { return d.Number == number })
	if at < 0 {
		wantDrop(s.t, s.c, number, 0, api.ErrTimer)
		return
	}
	wantDrop(s.t, s.c, number, s.m.in[at].Value, api.OK)
	s.m.in = slices.Delete(s.m.in, at, at+1)
	s.out[number]++
}

func (s *tries) take() {
	if len(s.m.in) == 0 {
		wantNone(s.t, s.c, s.m.now)
		return
	}
	d := s.m.take()
	wantTake(s.t, s.c, d)
	s.out[d.Number]++
}

func (s *tries) until() {
	tick := s.tick()
	if e := s.refusal(tick); e != api.OK {
		wantNoUntil(s.t, s.c, tick, e)
		return
	}
	want := s.m.until(tick)
	wantUntil(s.t, s.c, tick, want...)
	for _, d := range want {
		s.out[d.Number]++
	}
}

// step does one call at random.
func (s *tries) step() {
	switch s.r.IntN(9) {
	case 0, 1, 2, 3, 4:
		s.set()
	case 5:
		s.drop()
	case 6, 7:
		s.take()
	default:
		s.until()
	}
}

// TestP18_1to6 holds clocks against their models.
func TestP18_1to6(t *testing.T) {
	for seed := range 100 {
		r := rand.New(rand.NewPCG(uint64(seed), 18))
		start := []int{0, 5, 1 << 32, api.MaxTick - 30, api.MaxTick}[seed%5]
		s := &tries{t, r, begun[int](t, start), &model{now: start}, map[int]int{}}
		all, before := s.c.All(), s.m.inOrder()
		for range 200 {
			s.step()
			wantList(t, "an earlier All", all, before...)
			all, before = s.c.All(), s.m.inOrder()
			wantList(t, "All", all, before...)
			if s.c.Len() != len(s.m.in) || s.c.Now() != s.m.now {
				t.Fatal(seed, s.c.Len(), len(s.m.in), s.c.Now(), s.m.now)
			}
		}
		if t.Failed() {
			t.Fatal(seed)
		}
	}
}

// TestP18_8Once: each number is out once or waits still, and Now never goes back.
func TestP18_8Once(t *testing.T) {
	for seed := range 50 {
		r := rand.New(rand.NewPCG(uint64(seed), 188))
		s := &tries{t, r, begun[int](t, 3), &model{now: 3}, map[int]int{}}
		for range 300 {
			now := s.c.Now()
			s.step()
			if s.c.Now() < now {
				t.Fatal("Now went back", seed, now, s.c.Now())
			}
		}
		for d := range s.c.All() {
			s.out[d.Number]++
		}
		for number := range s.m.next {
			if s.out[number] != 1 {
				t.Error(seed, number, s.out[number])
			}
		}
		if len(s.out) != s.m.next || s.m.next < 50 {
			t.Error(seed, len(s.out), s.m.next)
		}
	}
}

// filled gives a clock with things at random, some of them dropped again: the same one for the same seed.
func filled(t *testing.T, seed, n, ticks int) *clock.Clock[int] {
	r := rand.New(rand.NewPCG(uint64(seed), 189))
	c := begun[int](t, 10)
	for i := range n {
		wantSet(t, c, 10+r.IntN(ticks), r.Int(), i)
	}
	for range n / 5 {
		c.Drop(r.IntN(n))
	}
	return c
}

func wantRising(t *testing.T, l []due) {
	t.Helper()
	for i := 1; i < len(l); i++ {
		a, b := l[i-1], l[i]
		if a.Tick > b.Tick || a.Tick == b.Tick && a.Number >= b.Number {
			t.Error("out of order:", a, b)
		}
	}
}

func TestP18_8Rising(t *testing.T) {
	for seed := range 60 {
		c := filled(t, seed, 100, 1+seed)
		r := rand.New(rand.NewPCG(uint64(seed), 190))
		n := c.Len()
		var out []due
		for c.Len() > 0 {
			if r.IntN(3) > 0 {
				d, _ := c.Take()
				out = append(out, d)
				continue
			}
			l, e := c.Until(c.Now() + r.IntN(4))
			if e != api.OK {
				t.Fatal(seed, e)
			}
			out = append(out, l...)
		}
		wantRising(t, out)
		if len(out) != n {
			t.Error(seed, len(out), n)
		}
	}
}

func TestP18_9(t *testing.T) {
	for seed := range 60 {
		for tick := 10; tick < 32; tick++ {
			one, other := filled(t, seed, 60, 20), filled(t, seed, 60, 20)
			got, e := one.Until(tick)
			var want []due
			for next, is := other.Next(); is && next <= tick; next, is = other.Next() {
				d, _ := other.Take()
				want = append(want, d)
			}
			if !slices.Equal(got, want) || e != api.OK || tick > 29 && one.Len() != 0 {
				t.Fatal(seed, tick, got, want, e)
			}
			wantList(t, "what is left", one.All(), slices.Collect(other.All())...)
		}
	}
}

func TestMany(t *testing.T) {
	n := 100_000
	c := begun[int](t, 0)
	var want []due
	for i := range n {
		d := due{Number: i, Tick: i * 7919 % 1009, Value: -i}
		wantSet(t, c, d.Tick, d.Value, i)
		want = append(want, d)
	}
	for i := 0; i < n; i += 2 {
		wantDrop(t, c, i, -i, api.OK)
	}
	want = slices.DeleteFunc(want, func(d due) bool { return d.Number%2 == 0 })
	slices.SortStableFunc(want, func(a, b due) int { return a.Tick - b.Tick })
	wantList(t, "All of many", c.All(), want...)
	got, e := c.Until(500)
	rest, more := c.Until(api.MaxTick)
	if !slices.Equal(append(got, rest...), want) || e != api.OK || more != api.OK {
		t.Error("Until of many")
	}
	wantNone(t, c, api.MaxTick)
}

// heavies gives things whose going out of use can be seen.
func heavies(n int) ([]*text, []weak.Pointer[text]) {
	var all []*text
	var seen []weak.Pointer[text]
	for i := range n {
		x := &text{Number: i, Value: "a text"}
		all = append(all, x)
		seen = append(seen, weak.Make(x))
	}
	return all, seen
}

// TestNothingIsHeldThatIsOut: what came out of a clock is its taker's alone.
func TestNothingIsHeldThatIsOut(t *testing.T) {
	c := begun[*text](t, 0)
	all, seen := heavies(40)
	for i, x := range all {
		wantSet(t, c, i*7%10, x, i)
	}
	clear(all)
	for i := range 10 {
		c.Drop(i * 3)
	}
	for range 5 {
		c.Take()
	}
	c.Until(6)
	runtime.GC()
	held := map[*text]bool{}
	for d := range c.All() {
		held[d.Value] = true
	}
	for i, x := range seen {
		if p := x.Value(); p != nil && !held[p] {
			t.Error("still held:", i)
		}
	}
	if c.Len() == 0 || len(held) != c.Len() {
		t.Error(c.Len(), len(held))
	}
	clear(held)
	c.Until(9)
	runtime.GC()
	for i, x := range seen {
		if x.Value() != nil {
			t.Error("held by a clock for which nothing waits:", i)
		}
	}
	wantNone(t, c, 9)
}
