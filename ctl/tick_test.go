package ctl

import (
	"testing"

	"tollgate/api"
)

// P2005.

// Where nothing flies no tick counts: neither of a new one, nor of one where some wait, nor of one whose messages were acked.
func TestP2005NothingFlies(t *testing.T) {
	c := made(t, 4, 5, 0, 3, 10)
	ticks(c, 1000)
	is(t, "new", c, look{false, 0, 0, 10, 10, 1})
	given(t, c, 0, 5)
	ticks(c, 1000)
	is(t, "some wait", c, look{false, 5, 0, 10, 10, 1})
	takes(t, "something is owed", c, it(10, 10, "x"), "x")
	ticks(c, 1000)
	outs(t, "some wait", c, it(10, 11, "m0"))
	ticks(c, 2)
	is(t, "one flies", c, look{false, 4, 1, 11, 11, 1})
	acks(t, "an ack", c, 11)
	ticks(c, 1000)
	is(t, "an ack", c, look{false, 4, 0, 11, 11, 2})
	outs(t, "two more", c, items(11, 11, 1, 2)...)
	ticks(c, 2)
	is(t, "two more", c, look{false, 2, 2, 13, 11, 2})
	c.Tick()
	is(t, "the third tick", c, look{true, 2, 2, 13, 11, 2})
}

// Waits of 1, 2, 4 and 8 times wait, never more, up to the last try and the tick behind it.
func TestP2005Waits(t *testing.T) {
	for retry := range 11 {
		for _, wait := range []int{1, 2, 3, 50, 99, 100} {
			c := made(t, 4, 5, retry, wait, 10)
			given(t, c, 0, 1)
			outs(t, "at first", c, it(10, 10, "m0"))
			at, tick, again := []int{}, 0, 0
			for ; !c.Dead() && tick < 100000; tick++ {
				if l := c.Out(); len(l) > 0 {
					at = append(at, tick)
				}
				c.Tick()
			}
			sum := 0
			for try := range retry {
				sum += wait * []int{1, 2, 4, 8, 8, 8, 8, 8, 8, 8}[try]
				if len(at) <= try || at[try] != sum {
					t.Fatalf("retry %d, wait %d: it goes again at %v, not at %d", retry, wait, at, sum)
				}
				again++
			}
			sum += wait * []int{1, 2, 4, 8, 8, 8, 8, 8, 8, 8, 8}[retry]
			if len(at) != again || tick != sum {
				t.Errorf("retry %d, wait %d: %d times again, dead at %d, not at %d", retry, wait, len(at), tick, sum)
			}
			is(t, "dead", c, look{true, 0, 1, 11, 10, 1})
			ticks(c, 3000)
			is(t, "dead for long", c, look{true, 0, 1, 11, 10, 1})
			outs(t, "dead for long", c)
		}
	}
}

// The first one that flies goes again, whichever it is by now, and that alone.
func TestP2005WhatGoesAgain(t *testing.T) {
	for n := 1; n <= 6; n++ {
		for acked := range n {
			c := roomy(t, 6, 6, 65533)
			given(t, c, 0, n)
			c.Out()
			if acked > 0 {
				acks(t, "some", c, wrap(65533+acked))
			}
			ticks(c, 2)
			is(t, "a wait", c, look{false, 0, n - acked, wrap(65533 + n), 65528, 1})
			outs(t, "a wait", c, it(wrap(65533+acked), 65528, body(acked)))
			outs(t, "twice in a row", c)
			ticks(c, 4)
			outs(t, "the second wait", c, it(wrap(65533+acked), 65528, body(acked)))
		}
	}
}

// Two waits in vain without an Out between: it goes again once.
func TestP2005AgainUnheard(t *testing.T) {
	c := made(t, 4, 5, 3, 1, 0)
	given(t, c, 0, 1)
	c.Out()
	ticks(c, 7)
	outs(t, "three waits", c, it(0, 0, "m0"))
	outs(t, "three waits, twice in a row", c)
}

// The mark is half of the room, rounded down, but at least 1; the room is 1, its count 0.
func TestP2005MarkAndRoom(t *testing.T) {
	for room := 1; room <= 64; room++ {
		for extra := range 3 {
			c := roomy(t, 64, room, 65500)
			acked := 0
			ack := func() {
				given(t, c, 0, 1)
				c.Out()
				acked++
				acks(t, "an ack", c, wrap(65500+acked))
			}
			if room == 64 {
				for range extra { // counted at the mark, and forgotten
					ack()
				}
			}
			given(t, c, 0, 1)
			c.Out()
			ticks(c, 2)
			is(t, "a wait", c, look{false, 0, 1, wrap(65501 + acked), wrap(65501 - room), 1})
			acked++
			acks(t, "by then", c, wrap(65500+acked))
			mark := max(room/2, 1)
			for n := 2; n <= mark; n++ {
				if c.Room() != n {
					t.Fatalf("a room of %d: %d behind %d acks", room, c.Room(), n-1)
				}
				if n < mark {
					ack()
				}
			}
			if mark > 1 { // with a mark of 1 the first ack was counted: the room is 2
				for range mark - 1 {
					ack()
				}
				if c.Room() != mark {
					t.Fatalf("a room of %d: %d ahead of the last of %d acks that count", room, c.Room(), mark)
				}
				ack()
			}
			if c.Room() != mark+1 {
				t.Fatalf("a room of %d: %d behind %d acks that count", room, c.Room(), mark)
			}
		}
	}
}

// What was counted at the mark is forgotten with a wait in vain: only behind as many anew the room grows.
func TestP2005Count(t *testing.T) {
	for counted := range 8 {
		c := roomy(t, 8, 8, 0)
		n := 0
		ack := func(what string, room int) {
			t.Helper()
			given(t, c, n, 1)
			c.Out()
			n++
			acks(t, what, c, n)
			if c.Room() != room {
				t.Errorf("%d counted: %s: the room is %d, not %d", counted, what, c.Room(), room)
			}
		}
		for range counted {
			ack("counted", 8)
		}
		given(t, c, n, 1)
		c.Out()
		ticks(c, 2)
		n++
		acks(t, "by then", c, n)
		for _, room := range []int{3, 4, 4, 4, 4, 5, 5, 5, 5, 5, 6} {
			ack("behind the wait", room)
		}
	}
}

// Of waits in a row each one halves what the last one left: the mark is 1.
func TestP2005MarkOfARow(t *testing.T) {
	c := roomy(t, 8, 8, 0)
	given(t, c, 0, 8)
	c.Out()
	ticks(c, 2+4)
	for n, room := range []int{2, 2, 3, 3, 3, 4, 4, 4} {
		acks(t, "an ack", c, n+1)
		is(t, "an ack", c, look{false, 0, 7 - n, 8, 65529, room})
	}
}

// Acks between: each begins the waits anew, so that it lives as long as one is acked in time.
func TestP2005AcksBetween(t *testing.T) {
	c := made(t, 1, 40, 1, 2, 65530)
	for n := range 500 {
		given(t, c, n, 1)
		outs(t, "a message", c, it((65530+n)%65536, 65530, body(n)))
		ticks(c, 2)
		outs(t, "again", c, it((65530+n)%65536, 65530, body(n)))
		ticks(c, 3)
		is(t, "the last tick but one", c, look{false, 0, 1, (65531 + n) % 65536, 65530, 1})
		acks(t, "by then", c, (65531+n)%65536)
	}
	given(t, c, 0, 1)
	c.Out()
	ticks(c, 5)
	acks(t, "of none", c, 494)
	c.Tick()
	if !c.Dead() {
		t.Error("an ack of none let it live")
	}
}

// What comes, but acks, and what is asked, changes no waits.
func TestP2005WhatChangesNoWaits(t *testing.T) {
	for what, do := range map[string]func(c *Ctl){
		"a Body":         func(c *Ctl) { c.Take(it(0, 0, "x")) },
		"one doubled":    func(c *Ctl) { c.Take(it(65535, 0, "x")) },
		"an ack of none": func(c *Ctl) { c.Take(it(0, 0, "")) },
		"Send":           func(c *Ctl) { c.Send("x") },
		"Send of none":   func(c *Ctl) { c.Send("") },
		"Out":            func(c *Ctl) { c.Out() },
		"Window":         func(c *Ctl) { c.Window(1) },
		"to be asked":    func(c *Ctl) { seen(c) },
	} {
		c := made(t, 4, 5, 1, 3, 0)
		given(t, c, 0, 1)
		c.Out()
		for range 3 {
			do(c)
			c.Tick()
		}
		if l := c.Out(); len(l) != 1 || l[0].Ns != 0 || l[0].Body != "m0" {
			t.Errorf("%s: behind the wait goes %v", what, l)
		}
		for range 6 {
			do(c)
			if c.Dead() {
				t.Errorf("%s: dead ahead of its time", what)
			}
			c.Tick()
		}
		if !c.Dead() {
			t.Errorf("%s: not dead", what)
		}
	}
}

// A dead one stays dead: nothing is sent, taken or told any more, and what is asked stays as it was.
func TestP2005Dead(t *testing.T) {
	for n := 1; n <= 4; n++ {
		c := grown(t, made(t, 4, 40, 0, 2, 65533), 4)
		given(t, c, 0, n+3)
		want := look{true, max(n+3-4, 0), min(n+3, 4), min(n+3, 4), 65533, 4}
		c.Out()
		ticks(c, 2)
		for range 3 {
			is(t, "dead", c, want)
			sends(t, "dead", c, "x", api.ErrState)
			takes(t, "dead", c, it(65533, 1, "x"))
			outs(t, "dead", c)
			ticks(c, 100)
			is(t, "dead", c, want)
		}
		if err := c.Window(0); err != api.ErrArg {
			t.Errorf("Window(0) of a dead one = %d", err)
		}
		is(t, "dead", c, want)
	}
}
