package tape

import (
	"math"
	"slices"
	"testing"

	"tollgate/api"
)

// P302, P303 and, of the clock, P304: timers that are set and cancelled, and the time that goes on.

// set sets timers that must be taken.
func set(t *testing.T, c *Clock, after int, keys ...Key) {
	t.Helper()
	for _, k := range keys {
		if err := c.Set(k, after); err != api.OK {
			t.Errorf("Set(%v, %d) = %d", k, after, err)
		}
	}
}

// ticks asks that Tick(n) tells these keys, and no others.
func ticks(t *testing.T, c *Clock, n int, want ...Key) {
	t.Helper()
	if got := c.Tick(n); !slices.Equal(got, want) {
		t.Errorf("Tick(%d) = %v, not %v", n, got, want)
	}
}

// stands asks for the time and the number of timers.
func stands(t *testing.T, c *Clock, now, timers int) {
	t.Helper()
	if c.Now() != now || c.Len() != timers {
		t.Errorf("time %d, %d timers, not %d, %d", c.Now(), c.Len(), now, timers)
	}
}

// full makes a clock with 300 timers of the kind 9.
func full(t *testing.T) *Clock {
	t.Helper()
	c := NewClock()
	for i := range 300 {
		set(t, c, 10+i%3, Key{9, i})
	}
	stands(t, c, 0, 300)
	return c
}

func TestP302NewClock(t *testing.T) {
	c := NewClock()
	stands(t, c, 0, 0)
	if at, is := c.When(Key{}); at != 0 || is {
		t.Errorf("When of a new clock = %d, %t", at, is)
	}
	if c.Cancel(Key{}) {
		t.Error("Cancel of a new clock")
	}
	d := NewClock()
	set(t, c, 1, Key{1, 1})
	stands(t, d, 0, 0)
}

func TestP302SetWithinItsBounds(t *testing.T) {
	for _, after := range []int{0, -1, 1 << 31, 1 << 32, math.MinInt, math.MaxInt} {
		c := NewClock()
		if err := c.Set(Key{1, 1}, after); err != api.ErrArg {
			t.Errorf("Set of %d = %d", after, err)
		}
		stands(t, c, 0, 0)
	}
	for _, after := range []int{1, 2, 1<<31 - 1} {
		c := NewClock()
		c.Tick(100)
		set(t, c, after, Key{1, 1})
		stands(t, c, 100, 1)
		if at, is := c.When(Key{1, 1}); at != 100+after || !is {
			t.Errorf("When behind Set of %d = %d, %t", after, at, is)
		}
	}
}

func TestP302SetThatIsRefusedChangesNothing(t *testing.T) {
	c := NewClock()
	set(t, c, 5, Key{1, 1}, Key{1, 2})
	for _, after := range []int{0, 1 << 31} {
		if err := c.Set(Key{1, 1}, after); err != api.ErrArg {
			t.Errorf("Set of %d = %d", after, err)
		}
	}
	if at, is := c.When(Key{1, 1}); at != 5 || !is {
		t.Errorf("When = %d, %t", at, is)
	}
	ticks(t, c, 5, Key{1, 1}, Key{1, 2})
}

func TestP302SetAnewTakesTheOlderOneAway(t *testing.T) {
	c := NewClock()
	set(t, c, 3, Key{1, 1})
	set(t, c, 8, Key{1, 1})
	stands(t, c, 0, 1)
	if at, is := c.When(Key{1, 1}); at != 8 || !is {
		t.Errorf("When = %d, %t", at, is)
	}
	ticks(t, c, 7)
	set(t, c, 2, Key{1, 1})
	ticks(t, c, 1)
	ticks(t, c, 1, Key{1, 1})
	ticks(t, c, 20)
}

func TestP302FullAt300(t *testing.T) {
	c := full(t)
	for _, k := range []Key{{9, 300}, {8, 0}, {}} {
		if err := c.Set(k, 5); err != api.ErrFull {
			t.Errorf("Set(%v) of a full clock = %d", k, err)
		}
		if _, is := c.When(k); is {
			t.Errorf("%v has a timer that was refused", k)
		}
	}
	if err := c.Set(Key{9, 300}, 0); err != api.ErrArg {
		t.Errorf("both errors: %d", err)
	}
	set(t, c, 5, Key{9, 299})
	stands(t, c, 0, 300)
	if !c.Cancel(Key{9, 0}) {
		t.Error("Cancel of a full clock")
	}
	set(t, c, 5, Key{9, 300})
	if err := c.Set(Key{9, 0}, 5); err != api.ErrFull {
		t.Errorf("Set of a clock that is full again = %d", err)
	}
	ticks(t, c, 5, Key{9, 299}, Key{9, 300})
	set(t, c, 1, Key{1, 1}, Key{1, 2})
	stands(t, c, 5, 300)
}

func TestP302CancelAndWhen(t *testing.T) {
	c := NewClock()
	set(t, c, 4, Key{1, 2}, Key{2, 1})
	for _, k := range []Key{{1, 1}, {2, 2}, {0, 0}, {1, -2}, {-1, 2}} {
		if at, is := c.When(k); at != 0 || is {
			t.Errorf("When(%v) = %d, %t", k, at, is)
		}
		if c.Cancel(k) {
			t.Errorf("Cancel(%v), which has none", k)
		}
	}
	stands(t, c, 0, 2)
	if !c.Cancel(Key{1, 2}) || c.Cancel(Key{1, 2}) {
		t.Error("Cancel twice: not true, then false")
	}
	if at, is := c.When(Key{1, 2}); at != 0 || is {
		t.Errorf("When behind Cancel = %d, %t", at, is)
	}
	stands(t, c, 0, 1)
	ticks(t, c, 4, Key{2, 1})
	if at, is := c.When(Key{2, 1}); at != 0 || is || c.Cancel(Key{2, 1}) {
		t.Errorf("a timer that is over is still there: %d, %t", at, is)
	}
}

func TestP302KeysOfAnyNumbers(t *testing.T) {
	keys := []Key{{math.MinInt, math.MaxInt}, {math.MaxInt, math.MinInt}, {0, 0}, {0, -1}, {-1, 0}, {1 << 32, 0}, {0, 1 << 32}}
	c := NewClock()
	set(t, c, 1, keys...)
	stands(t, c, 0, len(keys))
	ticks(t, c, 1, keys...)
}

func TestP303Example(t *testing.T) {
	c := NewClock()
	set(t, c, 5, Key{1, 1})
	set(t, c, 3, Key{1, 2})
	set(t, c, 5, Key{2, 1})
	ticks(t, c, 5, Key{1, 2}, Key{1, 1}, Key{2, 1})
	stands(t, c, 5, 0)
}

func TestP303TickWithinItsBounds(t *testing.T) {
	c := NewClock()
	set(t, c, 1, Key{1, 1})
	for _, n := range []int{0, -1, 1000001, 1 << 32, math.MinInt, math.MaxInt} {
		ticks(t, c, n)
		stands(t, c, 0, 1)
	}
	ticks(t, c, 1, Key{1, 1})
	ticks(t, c, 1000000)
	stands(t, c, 1000001, 0)
}

func TestP303TimersToTheTick(t *testing.T) {
	c := NewClock()
	set(t, c, 10, Key{1, 10})
	set(t, c, 11, Key{1, 11})
	ticks(t, c, 9)
	stands(t, c, 9, 2)
	ticks(t, c, 1, Key{1, 10})
	stands(t, c, 10, 1)
	ticks(t, c, 1, Key{1, 11})
	ticks(t, c, 100)
	stands(t, c, 111, 0)
}

func TestP303OrderOfOneTimeIsThatOfSet(t *testing.T) {
	c := NewClock()
	set(t, c, 9, Key{5, 5}, Key{1, 9}, Key{3, 3}, Key{1, 1})
	// Set at another time, to be over at the same one: behind those.
	ticks(t, c, 4)
	set(t, c, 5, Key{0, 0}, Key{2, 2})
	set(t, c, 4, Key{7, 7})
	// Set anew, though to the same time, or behind a Cancel: the newest ones.
	set(t, c, 5, Key{1, 9})
	c.Cancel(Key{5, 5})
	set(t, c, 5, Key{5, 5})
	ticks(t, c, 5, Key{7, 7}, Key{3, 3}, Key{1, 1}, Key{0, 0}, Key{2, 2}, Key{1, 9}, Key{5, 5})
}

func TestP303OrderOfAFullClock(t *testing.T) {
	// More than once: what hung on the order of a map would be told otherwise by one of them.
	for range 20 {
		c := full(t)
		got := c.Tick(1000000)
		var want []Key
		for rest := range 3 {
			for i := rest; i < 300; i += 3 {
				want = append(want, Key{9, i})
			}
		}
		if !slices.Equal(got, want) {
			t.Fatalf("Tick = %v, not %v", got, want)
		}
		stands(t, c, 1000000, 0)
	}
}

func TestP303TimeStays(t *testing.T) {
	c := &Clock{now: 1<<60 - 10}
	set(t, c, 9, Key{1, 9})
	set(t, c, 10, Key{1, 10})
	set(t, c, 11, Key{1, 11})
	ticks(t, c, 9, Key{1, 9})
	stands(t, c, 1<<60-1, 2)
	// The time stays at 2^60, which a timer behind that never sees.
	ticks(t, c, 1000000, Key{1, 10})
	stands(t, c, 1<<60, 1)
	ticks(t, c, 1)
	stands(t, c, 1<<60, 1)
	set(t, c, 1<<31-1, Key{2, 2})
	if at, is := c.When(Key{2, 2}); at != 1<<60+1<<31-1 || !is {
		t.Errorf("When = %d, %t", at, is)
	}
}

func TestP303AnswerIsNewMemory(t *testing.T) {
	c := NewClock()
	set(t, c, 1, Key{1, 1}, Key{1, 2})
	set(t, c, 2, Key{1, 3}, Key{1, 4})
	first := c.Tick(1)
	first = append(first, Key{9, 9}, Key{9, 9})
	second := c.Tick(1)
	second[0] = Key{8, 8}
	if want := []Key{{1, 1}, {1, 2}, {9, 9}, {9, 9}}; !slices.Equal(first, want) {
		t.Errorf("the first answer is %v, not %v", first, want)
	}
	if second[1] != (Key{1, 4}) {
		t.Errorf("the second answer is %v", second)
	}
}

// plainTimer and plainClock: the same promises by another hand, timers in the order in which they were set.
type plainTimer struct {
	key Key
	at  int
}

type plainClock struct {
	now    int
	timers []plainTimer
}

func (p *plainClock) cancel(k Key) bool {
	n := len(p.timers)
	p.timers = slices.DeleteFunc(p.timers, func(t plainTimer) bool { return t.key == k })
	return len(p.timers) < n
}

func (p *plainClock) tick(n int) []Key {
	p.now += n
	slices.SortStableFunc(p.timers, func(a, b plainTimer) int { return a.at - b.at })
	var keys []Key
	for len(p.timers) > 0 && p.timers[0].at <= p.now {
		keys = append(keys, p.timers[0].key)
		p.timers = p.timers[1:]
	}
	return keys
}

func TestP302P303AgainstAPlainClock(t *testing.T) {
	c, p := NewClock(), &plainClock{}
	seed := uint32(1)
	draw := func(n int) int {
		seed = seed*1664525 + 1013904223
		return int(seed>>8) % n
	}
	for range 20000 {
		k := Key{draw(3), draw(5)}
		switch draw(4) {
		case 0, 1:
			after := draw(6) + 1
			set(t, c, after, k)
			p.cancel(k)
			p.timers = append(p.timers, plainTimer{k, p.now + after})
		case 2:
			if got, want := c.Cancel(k), p.cancel(k); got != want {
				t.Fatalf("at %d: Cancel(%v) = %t", p.now, k, got)
			}
		case 3:
			n := draw(3) + 1
			if got, want := c.Tick(n), p.tick(n); !slices.Equal(got, want) {
				t.Fatalf("at %d: Tick(%d) = %v, not %v", p.now, n, got, want)
			}
		}
		stands(t, c, p.now, len(p.timers))
	}
}

func TestP304ZeroClockIsNew(t *testing.T) {
	var c Clock
	stands(t, &c, 0, 0)
	if at, is := c.When(Key{1, 1}); at != 0 || is || c.Cancel(Key{1, 1}) {
		t.Errorf("a timer of a zero clock: %d, %t", at, is)
	}
	ticks(t, &c, 3)
	stands(t, &c, 3, 0)
	set(t, &c, 2, Key{1, 1})
	stands(t, &c, 3, 1)
	ticks(t, &c, 2, Key{1, 1})
}

func TestP304OfANilClockNothingHappens(t *testing.T) {
	var c *Clock
	for _, after := range []int{1, 0, 1 << 31} {
		if err := c.Set(Key{1, 1}, after); err != api.ErrArg {
			t.Errorf("Set of %d = %d", after, err)
		}
	}
	if at, is := c.When(Key{1, 1}); at != 0 || is || c.Cancel(Key{1, 1}) {
		t.Errorf("a timer of a nil clock: %d, %t", at, is)
	}
	for _, n := range []int{1, 0, 1000001} {
		ticks(t, c, n)
	}
	stands(t, c, 0, 0)
}
