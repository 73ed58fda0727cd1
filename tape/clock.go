package tape

import (
	"cmp"
	"slices"

	"tollgate/api"
)

const (
	timersMost = 300
	afterMost  = 1<<31 - 1
	tickMost   = 1000000
	timeMost   = 1 << 60
)

// Key is whose timer it is.
type Key struct{ Kind, Id int }

// timer is when a timer is over, and the how manieth it was that was set.
type timer struct{ at, turn int }

// Clock has the time, and timers.
type Clock struct {
	now    int
	turns  int // how often a timer was set
	timers map[Key]timer
}

// NewClock makes a clock.
func NewClock() *Clock { return &Clock{} }

// Now tells the time.
func (c *Clock) Now() int {
	if c == nil {
		return 0
	}
	return c.now
}

// Set sets a timer.
func (c *Clock) Set(k Key, after int) api.Errno {
	if c == nil || after < 1 || after > afterMost {
		return api.ErrArg
	}
	if _, had := c.timers[k]; !had && len(c.timers) >= timersMost {
		return api.ErrFull
	}
	// Made here and not by NewClock: a zero clock is a new one too.
	if c.timers == nil {
		c.timers = make(map[Key]timer)
	}
	c.turns++
	c.timers[k] = timer{at: c.now + after, turn: c.turns}
	return api.OK
}

// Cancel takes a timer away.
func (c *Clock) Cancel(k Key) bool {
	if c == nil {
		return false
	}
	_, had := c.timers[k]
	delete(c.timers, k)
	return had
}

// When tells a timer's time.
func (c *Clock) When(k Key) (int, bool) {
	if c == nil {
		return 0, false
	}
	t, is := c.timers[k]
	return t.at, is
}

// Tick lets time go by; whose timers are over.
func (c *Clock) Tick(n int) []Key {
	if c == nil || n < 1 || n > tickMost {
		return nil
	}
	c.now = min(c.now+n, timeMost)
	keys := c.over()
	for _, k := range keys {
		delete(c.timers, k)
	}
	return keys
}

// Len tells how many timers there are.
func (c *Clock) Len() int {
	if c == nil {
		return 0
	}
	return len(c.timers)
}

// over tells whose timers are over by now, in the order in which they are told.
func (c *Clock) over() []Key {
	var keys []Key
	for k, t := range c.timers {
		if t.at <= c.now {
			keys = append(keys, k)
		}
	}
	slices.SortFunc(keys, c.order)
	return keys
}

// order holds two timers against each other. No two have one turn, so that the order of the map is never seen.
func (c *Clock) order(a, b Key) int {
	x, y := c.timers[a], c.timers[b]
	return cmp.Or(cmp.Compare(x.at, y.at), cmp.Compare(x.turn, y.turn))
}
