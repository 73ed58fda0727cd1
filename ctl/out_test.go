package ctl

import (
	"slices"
	"testing"

	"tollgate/api"
)

// P2004.

func TestP2004Example(t *testing.T) {
	a := made(t, 4, 10, 2, 5, 65535)
	given(t, a, 0, 2)
	outs(t, "the first", a, it(65535, 65535, "m0"))
	takes(t, "its ack", a, it(65535, 0, ""))
	outs(t, "the second", a, it(0, 65535, "m1"))
}

func TestP2004Nothing(t *testing.T) {
	c := made(t, 4, 10, 2, 5, 65535)
	outs(t, "new", c)
	given(t, c, 0, 1)
	outs(t, "one", c, it(65535, 65535, "m0"))
	for range 3 {
		outs(t, "twice in a row", c)
		is(t, "twice in a row", c, look{false, 0, 1, 0, 65535, 1})
	}
	acks(t, "an ack", c, 0)
	outs(t, "an ack", c)
	is(t, "an ack", c, look{false, 0, 0, 0, 65535, 2})
}

// Less and more waiting than may fly, with some that fly already.
func TestP2004AsManyAsMayFly(t *testing.T) {
	for _, window := range []int{1, 2, 3, 10, 63, 64} {
		for _, room := range []int{1, 2, 3, 9, 10, 40, 63, 64} {
			for _, fly := range []int{0, 1, 2, 9, 10, 39} {
				for _, wait := range []int{0, 1, 2, 9, 10, 39, 40} {
					if room > window || fly > room {
						continue
					}
					c := roomy(t, window, room, 65530)
					come := seen(c).come
					given(t, c, 0, fly)
					outs(t, "those that fly", c, items(65530, come, 0, fly)...)
					given(t, c, fly, wait)
					n := min(wait, room-fly)
					outs(t, "as many as may", c, items(65530+fly, come, fly, n)...)
					is(t, "as many as may", c, look{false, wait - n, fly + n, wrap(65530 + fly + n), come, room})
					outs(t, "twice in a row", c)
				}
			}
		}
	}
}

// With the room and the window at 1 one flies at a time.
func TestP2004OneAtATime(t *testing.T) {
	c := made(t, 1, 40, 3, 2, 65534)
	given(t, c, 0, 40)
	for n := range 40 {
		outs(t, "one", c, it((65534+n)%65536, 65534, body(n)))
		outs(t, "no other", c)
		is(t, "one", c, look{false, 39 - n, 1, (65535 + n) % 65536, 65534, 1})
		acks(t, "its ack", c, (65535+n)%65536)
		is(t, "its ack", c, look{false, 39 - n, 0, (65535 + n) % 65536, 65534, 1})
	}
	outs(t, "no more", c)
}

// Nr is the next one to come, whatever is sent.
func TestP2004Nr(t *testing.T) {
	c := made(t, 8, 10, 3, 2, 65534)
	given(t, c, 0, 1)
	outs(t, "nothing came", c, it(65534, 65534, "m0"))
	takes(t, "one", c, it(65534, 65534, "x"), "x")
	ticks(c, 2)
	outs(t, "again", c, it(65534, 65535, "m0"))
	takes(t, "two", c, it(65535, 65535, "y"), "y")
	given(t, c, 1, 1)
	outs(t, "two", c, it(65535, 0, "m1"))
	takes(t, "three", c, it(0, 65535, "z"), "z")
	outs(t, "an ack alone", c, it(0, 1, ""))
}

// An ack that is owed goes alone only where nothing else goes, and once, whatever came.
func TestP2004Owed(t *testing.T) {
	for _, n := range []int{1, 2, 5} {
		c := made(t, 2, 10, 3, 2, 65535)
		for k := range n {
			takes(t, "a Body", c, it((65535+k)%65536, 65535, "x"), "x")
		}
		outs(t, "an ack alone", c, it(65535, n-1, ""))
		is(t, "an ack alone", c, look{false, 0, 0, 65535, n - 1, 1})
		outs(t, "twice in a row", c)
		takes(t, "doubled", c, it(65535, 65535, "x"))
		outs(t, "doubled", c, it(65535, n-1, ""))
		outs(t, "doubled, twice in a row", c)

		takes(t, "once more", c, it(65535, 65535, "x"))
		given(t, c, 0, 1)
		outs(t, "with a message", c, it(65535, n-1, "m0"))
		outs(t, "with a message, twice in a row", c)

		takes(t, "once more", c, it(65535, 65535, "x"))
		given(t, c, 1, 1)
		outs(t, "one waits, and may not fly", c, it(0, n-1, ""))
		outs(t, "one waits, twice in a row", c)

		takes(t, "once more", c, it(65535, 65535, "x"))
		ticks(c, 2)
		outs(t, "with one that goes again", c, it(65535, n-1, "m0"))
		outs(t, "with one that goes again, twice in a row", c)
	}
}

// What is owed stays owed until it is told.
func TestP2004OwedForLong(t *testing.T) {
	c := made(t, 2, 10, 3, 2, 0)
	takes(t, "a Body", c, it(0, 0, "x"), "x")
	ticks(c, 500)
	windows(t, c, 5, api.OK, 1)
	acks(t, "nothing", c, 0)
	takes(t, "nothing", c, it(-1, 0, "y"))
	outs(t, "behind that", c, it(0, 1, ""))
}

// What goes again goes ahead of what waits, with its own number, and nothing waits to go once more.
func TestP2004Again(t *testing.T) {
	c := roomy(t, 4, 4, 65534)
	come := seen(c).come
	given(t, c, 0, 10)
	outs(t, "four", c, items(65534, come, 0, 4)...)
	ticks(c, 2)
	is(t, "a wait", c, look{false, 6, 4, 2, come, 1})
	outs(t, "the first", c, it(65534, come, "m0"))
	is(t, "the first", c, look{false, 6, 4, 2, come, 1})
	outs(t, "twice in a row", c)
	acks(t, "the first", c, 65535)
	outs(t, "three fly, two may", c)
	acks(t, "the next", c, 0)
	outs(t, "two fly, two may", c)
	acks(t, "the third", c, 1)
	outs(t, "one flies, three may", c, items(2, come, 4, 2)...)
	is(t, "one flies, three may", c, look{false, 4, 3, 4, come, 3})

	// One that goes again, and others that may fly now.
	c = made(t, 4, 10, 3, 2, 0)
	given(t, c, 0, 1)
	c.Out()
	acks(t, "an ack", c, 1)
	given(t, c, 1, 1)
	c.Out()
	ticks(c, 2)
	given(t, c, 2, 2)
	outs(t, "one may fly", c, it(1, 0, "m1"))
	ticks(c, 4)
	acks(t, "by then", c, 2)
	is(t, "by then", c, look{false, 2, 0, 2, 0, 2})
	outs(t, "two others", c, items(2, 0, 2, 2)...)
	ticks(c, 2)
	windows(t, c, 4, api.OK, 1)
	acks(t, "one of them", c, 3)
	outs(t, "one of them", c)
}

// Where one more flies the ticks are counted anew; where only what flies goes again, or an ack goes, they go on.
func TestP2004Ticks(t *testing.T) {
	for so := range 5 {
		c := grown(t, made(t, 8, 40, 3, 5, 65533), 4)
		come := seen(c).come
		given(t, c, 0, 1)
		c.Out()
		ticks(c, so)
		given(t, c, 1, 1)
		outs(t, "one more", c, it(1, come, "m1"))
		ticks(c, 4)
		outs(t, "four ticks behind it", c)
		takes(t, "what is owed", c, it(come, 0, "x"), "x")
		outs(t, "an ack", c, it(2, wrap(come+1), ""))
		outs(t, "nothing", c)
		c.Tick()
		ticks(c, so)
		outs(t, "again", c, it(0, wrap(come+1), "m0"))
		ticks(c, 9-so)
		outs(t, "nine ticks behind the wait", c)
		c.Tick()
		outs(t, "ten", c, it(0, wrap(come+1), "m0"))
	}
}

// Numbers wrap: of what is sent, what is acked, and what comes.
func TestP2004Wrap(t *testing.T) {
	c := made(t, 3, 40, 3, 2, 65000)
	n, next := 0, 65000
	var all []Item
	for range 70000 {
		for c.Send(body(n)) == api.OK {
			n++
		}
		l := c.Out()
		for _, i := range l {
			if i.Ns != next || i.Nr != 65000 || i.Body != body(len(all)) {
				t.Fatalf("%v is sent as the message %d", i, len(all))
			}
			all = append(all, i)
			next = (next + 1) % 65536
		}
		if got, _ := c.Next(); got != next || len(l) == 0 {
			t.Fatalf("the next is %d, not %d; %d were sent", got, next, len(l))
		}
		acks(t, "all", c, next)
	}
	if len(all) < 200000 {
		t.Errorf("%d were sent", len(all))
	}
}

// What is told is the asker's: to write into it changes nothing.
func TestP2004NewMemory(t *testing.T) {
	c := roomy(t, 4, 4, 0)
	come := seen(c).come
	given(t, c, 0, 6)
	l := c.Out()
	want := slices.Clone(l)
	for i := range l {
		l[i] = it(9, 9, "other")
	}
	l = append(l, it(9, 9, "other"))
	told := c.Take(it(come, 0, "x"))
	told[0] = "other"
	ticks(c, 2)
	outs(t, "again", c, it(0, wrap(come+1), "m0"))
	if l[0] != it(9, 9, "other") || len(want) != 4 {
		t.Errorf("%v and %v", l, want)
	}
	acks(t, "all", c, 4)
	outs(t, "the others", c, items(4, wrap(come+1), 4, 2)...)
}

func TestP2004Dead(t *testing.T) {
	c := lost(t) // an ack was told with the message
	outs(t, "lost", c)
	c = made(t, 4, 3, 0, 1, 6)
	given(t, c, 0, 1)
	c.Out()
	takes(t, "a Body", c, it(6, 6, "x"), "x")
	given(t, c, 1, 2)
	c.Tick()
	for range 2 {
		outs(t, "an ack is owed, and two wait", c)
		is(t, "an ack is owed, and two wait", c, look{true, 2, 1, 7, 7, 1})
		c.Take(it(7, 7, "y"))
	}
}
