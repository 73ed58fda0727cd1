package ctl

import (
	"math"
	"testing"

	"tollgate/api"
)

// P2003: what comes.

// Numbers that are none: nothing is acked, told or owed.
func TestP2003NumbersThatAreNone(t *testing.T) {
	none := []int{-1, 65536, -65536, -65535, 65537, 131072, 1 << 32, 1<<32 + 5, -1 << 32, math.MinInt, math.MaxInt}
	for _, first := range []int{0, 5, 65535} {
		for _, bad := range none {
			for _, body := range []string{"", "x"} {
				c := made(t, 4, 2, 3, 2, first)
				given(t, c, 0, 2)
				c.Out()
				c.Tick()
				before := seen(c)
				takes(t, "Ns", c, it(bad, wrap(first+1), body))
				takes(t, "Nr", c, it(first, bad, body))
				takes(t, "Ns and Nr", c, it(bad, bad, body))
				takes(t, "Ns modulo 65536", c, it(first+65536, wrap(first+1), body))
				takes(t, "Nr modulo 65536", c, it(first, wrap(first+1)-65536, body))
				is(t, "numbers that are none", c, before)
				outs(t, "numbers that are none", c)
				c.Tick() // the second one: they were not counted anew
				outs(t, "numbers that are none", c, it(first, first, "m0"))
			}
		}
	}
}

// The edges of numbers are numbers.
func TestP2003NumbersAtTheEdges(t *testing.T) {
	for _, first := range []int{0, 65535} {
		c := made(t, 4, 2, 3, 2, first)
		given(t, c, 0, 1)
		c.Out()
		takes(t, "at the edge", c, it(first, wrap(first+1), "x"), "x")
		is(t, "at the edge", c, look{false, 0, 0, wrap(first + 1), wrap(first + 1), 2})
	}
}

// flies makes an end of which n messages fly, the first one of the number first, behind a tick; the room is n.
func flies(t *testing.T, n, first int) *Ctl {
	t.Helper()
	c := roomy(t, 64, n, first)
	for k := range n {
		given(t, c, k, 1)
		c.Out()
	}
	c.Tick()
	is(t, "flies", c, look{false, 0, n, wrap(first + n), wrap(first - n + 1), n})
	return c
}

// Each Nr at each number of messages that fly: the first so many are acked, or it says nothing.
func TestP2003EveryNr(t *testing.T) {
	for _, n := range []int{1, 2, 5, 64} {
		for _, first := range []int{0, 1, 300, 32768, 65472, 65533, 65535} {
			c := flies(t, n, first)
			before := seen(c)
			for nr, d := first, 0; d < 65536; d++ {
				if d == 0 || d > n {
					if l := c.Take(it(0, nr, "")); len(l) > 0 || seen(c) != before {
						t.Fatalf("%d fly from %d on: Nr %d: %q, %+v", n, first, nr, l, seen(c))
					}
				}
				nr = (nr + 1) % 65536
			}
			outs(t, "nothing was said", c)
			c.Tick() // the second one of two
			outs(t, "nothing was said", c, it(first, before.come, "m0"))
		}
	}
	for _, n := range []int{1, 2, 3, 10, 64} {
		for _, first := range []int{0, 300, 65472, 65533, 65535} {
			for d := 1; d <= n; d++ {
				c := flies(t, n, first)
				want := seen(c)
				want.flying, want.room = n-d, min(n+d, 64)
				acks(t, "an ack", c, wrap(first+d))
				is(t, "an ack", c, want)
				acks(t, "the same ack", c, wrap(first+d))
				acks(t, "one ahead of it", c, wrap(first+d-1))
				acks(t, "that of none", c, first)
				acks(t, "one of none", c, wrap(first+n+1))
				is(t, "acks of none", c, want)
			}
		}
	}
}

// Where nothing flies no Nr says anything.
func TestP2003NothingFlies(t *testing.T) {
	c := made(t, 4, 40, 3, 2, 65535)
	for nr := range 65536 {
		c.Take(it(0, nr, ""))
	}
	is(t, "new", c, look{false, 0, 0, 65535, 65535, 1})
	given(t, c, 0, 1)
	for nr := range 65536 {
		c.Take(it(0, nr, ""))
	}
	is(t, "one waits", c, look{false, 1, 0, 65535, 65535, 1})
	outs(t, "one waits", c, it(65535, 65535, "m0"))
	acks(t, "one", c, 0)
	for nr := range 65536 {
		c.Take(it(0, nr, ""))
	}
	is(t, "one was acked", c, look{false, 0, 0, 0, 65535, 2})
}

// Those that are left are the last ones: the first of them is sent again, and acked, by its number.
func TestP2003WhatIsLeft(t *testing.T) {
	for d := range 6 {
		c := flies(t, 6, 65533)
		if d > 0 {
			acks(t, "an ack", c, wrap(65533+d))
		}
		ticks(c, 2)
		if d < 6 {
			outs(t, "again", c, it(wrap(65533+d), 65528, body(d)))
		}
		acks(t, "the next", c, wrap(65534+d))
		is(t, "the next", c, look{false, 0, max(5-d, 0), 3, 65528, seen(c).room})
	}
}

// An ack of some counts ticks and tries anew; one of none does not.
func TestP2003TicksAndTries(t *testing.T) {
	for tries := range 4 {
		for so := range 3 {
			c := made(t, 8, 5, 3, 3, 0)
			given(t, c, 0, 3)
			c.Out()
			acks(t, "the first", c, 1)
			c.Out()
			for try := range tries {
				ticks(c, 3<<try)
				outs(t, "again", c, it(1, 0, "m1"))
			}
			ticks(c, so)
			acks(t, "none", c, 1)
			acks(t, "none", c, 0)
			acks(t, "none", c, 4)
			ticks(c, 3<<tries-so-1)
			outs(t, "none was acked", c)
			acks(t, "one", c, 2)
			ticks(c, 2)
			outs(t, "one was acked", c)
			for try := range 3 {
				is(t, "anew", c, look{false, 0, 1, 3, 0, seen(c).room})
				ticks(c, 1)
				outs(t, "anew", c, it(2, 0, "m2"))
				ticks(c, 3<<(try+1)-1)
			}
			outs(t, "the last", c)
			if c.Dead() {
				t.Error("dead ahead of the last tick")
			}
			c.Tick()
			is(t, "the last", c, look{true, 0, 1, 3, 0, 1})
		}
	}
}

// A message that was to be sent again, and is acked by then, is not; nor is another one in its stead.
func TestP2003AckedByThen(t *testing.T) {
	for d := 1; d <= 4; d++ {
		c := flies(t, 4, 65534)
		c.Tick()
		acks(t, "by then", c, wrap(65534+d))
		is(t, "by then", c, look{false, 0, 4 - d, 2, 65531, []int{2, 2, 3, 3}[d-1]})
		outs(t, "by then", c)
	}
	c := flies(t, 4, 65534)
	c.Tick()
	acks(t, "of none", c, 65534)
	acks(t, "of none", c, 3)
	outs(t, "of none", c, it(65534, 65531, "m0"))
}

// With each ack the room grows by one below the mark, and behind that by one for as many as the room.
func TestP2003Room(t *testing.T) {
	for _, window := range []int{1, 2, 3, 5, 16, 64} {
		for from := 1; from <= window; from++ {
			c := roomy(t, window, from, 65530)
			given(t, c, 0, 1)
			c.Out()
			ticks(c, 2)
			room, mark := 1, max(from/2, 1)
			left := room // acks up to the next growth, at the mark and above it
			for n := range 400 {
				if room < mark {
					room++
					left = room
				} else if left--; left == 0 {
					room = min(room+1, window)
					left = room
				}
				acks(t, "an ack", c, wrap(65531+n))
				if c.Room() != room || c.Flying() != 0 {
					t.Fatalf("a window of %d, a mark of %d: the room is %d behind %d acks, not %d; %d fly", window, mark, c.Room(), n+1, room, c.Flying())
				}
				given(t, c, n+1, 1)
				c.Out()
			}
		}
	}
}

// One Nr that acks several is as many acks.
func TestP2003RoomBySeveral(t *testing.T) {
	for _, window := range []int{1, 2, 3, 6, 20, 64} {
		for step := 1; step <= 7; step++ {
			one, many := made(t, window, 40, 3, 2, 65500), made(t, window, 40, 3, 2, 65500)
			n, acked := 0, 0
			for range 60 {
				for one.Send(body(n)) == api.OK {
					given(t, many, n, 1)
					n++
				}
				one.Out()
				many.Out()
				if one.Flying() == 7 { // a wait in vain, now and then
					ticks(one, 2)
					ticks(many, 2)
				}
				flying := min(step, one.Flying())
				for k := range flying {
					acks(t, "one", one, wrap(65501+acked+k))
				}
				acked += flying
				acks(t, "many", many, wrap(65500+acked))
				is(t, "many", many, seen(one))
				if t.Failed() {
					t.Fatalf("a window of %d, %d at once", window, step)
				}
			}
		}
	}
}

// Bodies in their order, doubled, ahead of their turn and late.
func TestP2003Bodies(t *testing.T) {
	for _, first := range []int{0, 7, 65533, 65535} {
		c := made(t, 4, 2, 3, 2, first)
		at := func(n int) int { return (first + n) % 65536 }
		ack := func(what string, n int) {
			t.Helper()
			is(t, what, c, look{false, 0, 0, first, at(n), 1})
			outs(t, what, c, it(first, at(n), ""))
			outs(t, what+", once", c)
		}
		takes(t, "ahead of the first", c, it(at(1), first, "b"))
		ack("ahead of the first", 0)
		takes(t, "the one behind it", c, it(at(65535), first, "z"))
		ack("the one behind it", 0)
		for n := range 5 {
			takes(t, "in order", c, it(at(n), first, body(n)), body(n))
			ack("in order", n+1)
			takes(t, "doubled", c, it(at(n), first, body(n)))
			ack("doubled", n+1)
			takes(t, "doubled, another body", c, it(at(n), first, "other"))
			ack("doubled, another body", n+1)
			takes(t, "two ahead", c, it(at(n+2), first, body(n+2)))
			ack("two ahead", n+1)
			takes(t, "far ahead", c, it(at(n+32768), first, "far"))
			ack("far ahead", n+1)
		}
		for n := range 5 {
			takes(t, "late", c, it(at(n), first, body(n)))
			ack("late", 5)
		}
	}
}

// Of all numbers one is the next.
func TestP2003EveryNs(t *testing.T) {
	for _, first := range []int{0, 300, 32768, 65535} {
		c := made(t, 4, 2, 3, 2, first)
		for ns := range 65536 {
			if ns == first {
				continue
			}
			if l := c.Take(it(ns, first, "x")); len(l) != 0 {
				t.Fatalf("the next is %d: of Ns %d %q is told", first, ns, l)
			}
		}
		takes(t, "the next", c, it(first, first, "x"), "x")
		is(t, "the next", c, look{false, 0, 0, first, wrap(first + 1), 1})
	}
}

// Without a Body nothing comes: no Ns is looked at, nothing is owed.
func TestP2003NoBody(t *testing.T) {
	c := made(t, 4, 2, 3, 2, 65535)
	for ns := range 65536 {
		if l := c.Take(it(ns, 65535, "")); len(l) != 0 {
			t.Fatalf("%q is told", l)
		}
	}
	is(t, "no Body", c, look{false, 0, 0, 65535, 65535, 1})
	outs(t, "no Body", c)
	// Nor is what was owed owed no more.
	takes(t, "a Body", c, it(65535, 65535, "x"), "x")
	acks(t, "no Body behind it", c, 65535)
	outs(t, "no Body behind it", c, it(65535, 0, ""))
}

// Any Body: a long one too.
func TestP2003AnyBody(t *testing.T) {
	c := made(t, 4, 2, 3, 2, 0)
	for n, b := range []string{"\x00", " ", long(1500), long(1501), long(100000)} {
		takes(t, "any Body", c, it(n, 0, b), b)
	}
}

// One item may ack and bring a Body; each of both may be worth nothing.
func TestP2003AckAndBody(t *testing.T) {
	for _, x := range []struct {
		ns, nr int
		told   bool
		flying int
	}{
		{0, 1, true, 1}, {0, 2, true, 0}, {0, 0, true, 2}, {0, 3, true, 2}, {0, 65535, true, 2}, {0, 40000, true, 2},
		{1, 1, false, 1}, {1, 2, false, 0}, {65535, 2, false, 0}, {1, 0, false, 2}, {1, 3, false, 2}, {40000, 40000, false, 2},
	} {
		c := made(t, 2, 5, 3, 2, 65535)
		takes(t, "a first one", c, it(65535, 65535, "x"), "x")
		given(t, c, 0, 5)
		c.Out()
		acks(t, "a first one", c, 0)
		c.Out()
		want := look{false, 2, x.flying, 2, 0, 2}
		if x.told {
			want.come = 1
			takes(t, "both", c, it(x.ns, x.nr, "y"), "y")
		} else {
			takes(t, "both", c, it(x.ns, x.nr, "y"))
		}
		is(t, "both", c, want)
		if x.flying == 2 {
			outs(t, "the ack alone", c, it(2, want.come, ""))
		} else {
			outs(t, "an ack with the next", c, items(2, want.come, 3, 2-x.flying)...)
		}
	}
}

// What comes to a dead one is not told, acks nothing, and nothing is owed.
func TestP2003Dead(t *testing.T) {
	c := lost(t)
	before := seen(c)
	for _, ns := range []int{-1, 0, 6, 7, 8, 65535, 65536} {
		for _, nr := range []int{-1, 0, 6, 7, 8, 65535, 65536} {
			takes(t, "dead", c, it(ns, nr, "x"))
			takes(t, "dead", c, it(ns, nr, ""))
			is(t, "dead", c, before)
			outs(t, "dead", c)
		}
	}
}
