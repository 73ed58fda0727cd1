package ctl

import (
	"strings"
	"testing"

	"tollgate/api"
)

// P2002.

func sends(t *testing.T, what string, c *Ctl, body string, want api.Errno) {
	t.Helper()
	if got := c.Send(body); got != want {
		t.Errorf("%s: Send of %d bytes = %d, not %d", what, len(body), got, want)
	}
}

func long(n int) string { return strings.Repeat("\x00\xff", n/2+1)[:n] }

// lost makes an end that gave up: one of its messages flies, one waits, and the next one to come is 7.
func lost(t *testing.T) *Ctl {
	t.Helper()
	c := made(t, 4, 2, 0, 1, 6)
	given(t, c, 0, 2)
	takes(t, "to be lost", c, it(6, 6, "x"), "x")
	c.Out()
	c.Tick()
	is(t, "lost", c, look{true, 1, 1, 7, 7, 1})
	return c
}

func TestP2002Sizes(t *testing.T) {
	for n := range api.MaxData + 20 {
		c := made(t, 4, 2, 3, 2, 9)
		if n == 0 || n > api.MaxData {
			sends(t, "a body that can't be", c, long(n), api.ErrArg)
			is(t, "a body that can't be", c, look{false, 0, 0, 9, 9, 1})
			outs(t, "a body that can't be", c)
			continue
		}
		sends(t, "a body", c, long(n), api.OK)
		is(t, "a body", c, look{false, 1, 0, 9, 9, 1})
		outs(t, "a body", c, it(9, 9, long(n)))
	}
	sends(t, "a million", made(t, 4, 2, 3, 2, 9), long(1000000), api.ErrArg)
}

// As many as the queue says wait; those that were sent do not.
func TestP2002Full(t *testing.T) {
	for _, queue := range []int{1, 2, 5, 39, 40} {
		c := made(t, 64, queue, 3, 2, 0)
		for n := range queue {
			given(t, c, n, 1)
			is(t, "a queue", c, look{false, n + 1, 0, 0, 0, 1})
		}
		for range 3 {
			sends(t, "a full queue", c, "x", api.ErrFull)
			is(t, "a full queue", c, look{false, queue, 0, 0, 0, 1})
		}
		outs(t, "a full queue", c, it(0, 0, "m0"))
		is(t, "one flies", c, look{false, queue - 1, 1, 1, 0, 1})
		given(t, c, queue, 1)
		sends(t, "full again", c, "x", api.ErrFull)
		ticks(c, 2) // what is sent again does not wait
		sends(t, "behind a wait", c, "x", api.ErrFull)
		outs(t, "behind a wait", c, it(0, 0, "m0"))
		sends(t, "behind a wait", c, "x", api.ErrFull)
		acks(t, "an ack", c, 1)
		sends(t, "an ack alone", c, "x", api.ErrFull)
		is(t, "an ack alone", c, look{false, queue, 0, 1, 0, 2})
		outs(t, "two more", c, items(1, 0, 1, min(2, queue))...)
		sends(t, "room again", c, "x", api.OK)
	}
}

// Each waits behind all others, in whatever turn it is given and sent.
func TestP2002Order(t *testing.T) {
	c := made(t, 2, 3, 3, 5, 65530)
	n := 0
	for at := range 40 {
		for c.Send(body(n)) == api.OK {
			n++
		}
		if c.Waiting() != 3 {
			t.Fatalf("%d wait", c.Waiting())
		}
		outs(t, "in turn", c, it((65530+at)%65536, 65530, body(at)))
		if at == 0 {
			windows(t, c, 1, api.OK, 1)
		}
		acks(t, "in turn", c, (65531+at)%65536)
	}
	if n != 42 {
		t.Errorf("%d were given", n)
	}
}

// Whatever bytes: a body is not looked at, and the same one may be sent twice.
func TestP2002AnyBody(t *testing.T) {
	c := made(t, 64, 40, 3, 2, 0)
	for n, b := range []string{"\x00", " ", "x", "x", "\xff\xfe", long(1500)} {
		sends(t, "any body", c, b, api.OK)
		outs(t, "any body", c, it(n, 0, b))
		acks(t, "any body", c, n+1)
	}
}

// Of several errors the first is told: dead, then a body that can't be, then a full queue.
func TestP2002Errors(t *testing.T) {
	dead := lost(t)
	c := made(t, 4, 2, 0, 1, 6)
	given(t, c, 0, 2)
	for _, n := range []int{0, 1, 1500, 1501} {
		sends(t, "dead", dead, long(n), api.ErrState)
		want := api.ErrFull
		if n == 0 || n == 1501 {
			want = api.ErrArg
		}
		sends(t, "full", c, long(n), want)
	}
	is(t, "dead", dead, look{true, 1, 1, 7, 7, 1})
	is(t, "full", c, look{false, 2, 0, 6, 6, 1})
	full := made(t, 4, 2, 0, 1, 6)
	given(t, full, 0, 1)
	full.Out()
	given(t, full, 1, 2)
	full.Tick()
	for _, n := range []int{0, 1, 1500, 1501} {
		sends(t, "dead and full", full, long(n), api.ErrState)
	}
	is(t, "dead and full", full, look{true, 2, 1, 7, 6, 1})
}
