package ctl

import (
	"math"
	"slices"
	"strconv"
	"testing"

	"tollgate/api"
)

// P2001, and Before; and what the tests of all promises share.

func it(ns, nr int, body string) Item { return Item{Ns: ns, Nr: nr, Body: body} }

func made(t *testing.T, window, queue, retry, wait, first int) *Ctl {
	t.Helper()
	c, err := New(window, queue, retry, wait, first)
	if c == nil || err != api.OK {
		t.Fatalf("New(%d, %d, %d, %d, %d) = %v, %d", window, queue, retry, wait, first, c, err)
	}
	return c
}

// body tells the text of the message n.
func body(n int) string { return "m" + strconv.Itoa(n) }

// given lets the messages from, from + 1, .. wait, n of them.
func given(t *testing.T, c *Ctl, from, n int) {
	t.Helper()
	for i := range n {
		if err := c.Send(body(from + i)); err != api.OK {
			t.Fatalf("Send of the message %d = %d", from+i, err)
		}
	}
}

// items tells the messages from, from + 1, .. as they go over the way, n of them, the first of the number ns.
func items(ns, nr, from, n int) []Item {
	var l []Item
	for i := range n {
		l = append(l, it((ns+i)%65536, nr, body(from+i)))
	}
	return l
}

// outs holds what is to be sent.
func outs(t *testing.T, what string, c *Ctl, want ...Item) {
	t.Helper()
	if got := c.Out(); !slices.Equal(got, want) {
		t.Errorf("%s: Out() = %v, not %v", what, got, want)
	}
}

// takes holds what is told of what came.
func takes(t *testing.T, what string, c *Ctl, i Item, want ...string) {
	t.Helper()
	if got := c.Take(i); !slices.Equal(got, want) {
		t.Errorf("%s: Take(%v) = %q, not %q", what, i, got, want)
	}
}

// acks lets a bare ack come.
func acks(t *testing.T, what string, c *Ctl, nr int) {
	t.Helper()
	takes(t, what, c, it(0, nr, ""))
}

func ticks(c *Ctl, n int) {
	for range n {
		c.Tick()
	}
}

// look is all that can be asked.
type look struct {
	dead                              bool
	waiting, flying, next, come, room int
}

func seen(c *Ctl) look {
	next, come := c.Next()
	return look{c.Dead(), c.Waiting(), c.Flying(), next, come, c.Room()}
}

func is(t *testing.T, what string, c *Ctl, want look) {
	t.Helper()
	if got := seen(c); got != want {
		t.Errorf("%s: %+v, not %+v", what, got, want)
	}
}

// grown lets the room of a new end grow by acks of messages one by one, to as many as room says.
func grown(t *testing.T, c *Ctl, room int) *Ctl {
	t.Helper()
	_, first := c.Next()
	for n := range room - 1 {
		given(t, c, n, 1)
		c.Out()
		acks(t, "an ack", c, wrap(first+n+1))
	}
	is(t, "grown", c, look{false, 0, 0, wrap(first + room - 1), first, room})
	return c
}

// roomy makes an end of that window and room, where nothing waits or flies, and whose next number is first; a wait is 2 ticks.
func roomy(t *testing.T, window, room, first int) *Ctl {
	t.Helper()
	return grown(t, made(t, window, 40, 3, 2, wrap(first-room+1)), room)
}

func TestBefore(t *testing.T) {
	for _, x := range []struct {
		a, b int
		want bool
	}{
		{65535, 0, true}, {0, 32768, false}, // the document's
		{0, 0, false}, {0, 1, true}, {1, 0, false}, {0, 32767, true}, {32767, 0, false}, {32768, 0, false},
		{0, 65535, false}, {65535, 65535, false}, {65535, 1, true}, {65535, 32766, true}, {65535, 32767, false},
		{32767, 32768, true}, {32768, 32767, false}, {32768, 65535, true}, {32767, 65535, false}, {32769, 0, true},
		{1, 32768, true}, {1, 32769, false}, {65535, 65534, false}, {65534, 65535, true},
		{-1, 0, true}, {0, -1, false}, {-1, 65535, false}, {65535, -1, false}, {-65536, 1, true}, {-65537, 0, true},
		{65536, 0, false}, {65536, 1, true}, {65535, 65536, true}, {131072, 32767, true}, {131072, 32768, false},
		{math.MinInt, 0, false}, {math.MinInt, 1, true}, {0, math.MinInt + 1, true},
		{math.MaxInt, 0, true}, {math.MaxInt, 65535, false}, {0, math.MaxInt, false},
		{math.MaxInt, math.MinInt, true}, {math.MinInt, math.MaxInt, false},
	} {
		if got := Before(x.a, x.b); got != x.want {
			t.Errorf("Before(%d, %d) = %v", x.a, x.b, got)
		}
	}
}

// Each distance, from numbers at the edges, and the same numbers written as others.
func TestBeforeEveryDistance(t *testing.T) {
	for _, a := range []int{0, 1, 2, 255, 256, 32766, 32767, 32768, 32769, 40000, 65534, 65535} {
		b := a
		for d := range 65536 {
			want := 0 < d && d < 32768
			for _, more := range []int{0, 65536, -65536, 1 << 40, -1 << 40} {
				if Before(a, b+more) != want || Before(a+more, b) != want || Before(a+more, b-more) != want {
					t.Fatalf("Before(%d, %d), and %d further, is not %v", a, b, more, want)
				}
			}
			if b++; b == 65536 {
				b = 0
			}
		}
	}
}

func TestP2001New(t *testing.T) {
	for _, window := range []int{1, 2, 63, 64} {
		for _, queue := range []int{1, 2, 39, 40} {
			for _, retry := range []int{0, 1, 9, 10} {
				for _, wait := range []int{1, 2, 99, 100} {
					for _, first := range []int{0, 1, 32768, 65534, 65535} {
						is(t, "New", made(t, window, queue, retry, wait, first), look{false, 0, 0, first, first, 1})
					}
				}
			}
		}
	}
}

func refused(t *testing.T, n [5]int) {
	t.Helper()
	if c, err := New(n[0], n[1], n[2], n[3], n[4]); c != nil || err != api.ErrArg {
		t.Errorf("New(%v) = %v, %d, not ErrArg", n, c, err)
	}
}

// Each number beyond its edges alone, and with each other one beyond its own.
func TestP2001NewOfWrong(t *testing.T) {
	wrong := [5][]int{
		{0, 65, -1, 1<<32 + 1, math.MinInt, math.MaxInt},
		{0, 41, -1, 1<<32 + 1, math.MinInt, math.MaxInt},
		{-1, 11, 1 << 32, math.MinInt, math.MaxInt},
		{0, 101, -1, 1<<32 + 1, math.MinInt, math.MaxInt},
		{-1, 65536, 1 << 32, math.MinInt, math.MaxInt},
	}
	for i, l := range wrong {
		for _, v := range l {
			n := [5]int{4, 10, 2, 5, 65535}
			n[i] = v
			refused(t, n)
			for j, m := range wrong {
				for _, w := range m {
					if i != j {
						two := n
						two[j] = w
						refused(t, two)
					}
				}
			}
		}
	}
	refused(t, [5]int{0, 0, -1, 0, -1})
	refused(t, [5]int{65, 41, 11, 101, 65536})
}

// What New is given is what it goes by: the window and the mark, the queue, the retries, the wait.
func TestP2001NewKeeps(t *testing.T) {
	for _, window := range []int{1, 2, 3, 10, 64} {
		c := made(t, window, 40, 0, 1, 0)
		for n := range 200 {
			given(t, c, n, 1)
			c.Out()
			acks(t, "an ack", c, n+1)
			is(t, "an ack", c, look{false, 0, 0, n + 1, 0, min(n+2, window)})
		}
	}
	for _, queue := range []int{1, 2, 39, 40} {
		c := made(t, 1, queue, 0, 1, 0)
		given(t, c, 0, queue)
		if err := c.Send("x"); err != api.ErrFull {
			t.Errorf("Send to a queue of %d = %d", queue, err)
		}
	}
	for _, retry := range []int{0, 1, 2, 9, 10} {
		for _, wait := range []int{1, 2, 99, 100} {
			c := made(t, 1, 1, retry, wait, 0)
			given(t, c, 0, 1)
			c.Out()
			for try := range retry + 1 {
				ticks(c, wait*[]int{1, 2, 4, 8}[min(try, 3)]-1)
				is(t, "ahead of the tick", c, look{false, 0, 1, 1, 0, 1})
				outs(t, "ahead of the tick", c)
				c.Tick()
				is(t, "the tick", c, look{try == retry, 0, 1, 1, 0, 1})
				outs(t, "the tick", c, items(0, 0, 0, 1)[:min(1, retry-try)]...)
			}
		}
	}
}

func TestP2001NewEachItsOwn(t *testing.T) {
	a, b := made(t, 4, 2, 0, 1, 7), made(t, 4, 2, 0, 1, 7)
	given(t, a, 0, 2)
	a.Out()
	takes(t, "a", a, it(7, 7, "x"), "x")
	a.Tick()
	is(t, "a", a, look{true, 1, 1, 8, 8, 1})
	is(t, "b", b, look{false, 0, 0, 7, 7, 1})
	outs(t, "b", b)
	given(t, b, 0, 2)
	outs(t, "b", b, it(7, 7, "m0"))
}

// windows holds what Window answers, and what the room is behind it.
func windows(t *testing.T, c *Ctl, n int, want api.Errno, room int) {
	t.Helper()
	before := seen(c)
	if got := c.Window(n); got != want {
		t.Errorf("Window(%d) = %d, not %d", n, got, want)
	}
	before.room = room
	is(t, "Window", c, before)
}

func TestP2001Window(t *testing.T) {
	for room := 1; room <= 64; room++ {
		c := roomy(t, 64, room, 100)
		for _, n := range []int{0, 65, -1, 66, 1 << 32, 1<<32 + 1, math.MinInt, math.MaxInt} {
			windows(t, c, n, api.ErrArg, room)
		}
		windows(t, c, 64, api.OK, room)
		for n := 63; n >= 1; n-- {
			windows(t, c, n, api.OK, min(n, room))
		}
		windows(t, c, 64, api.OK, 1) // what it was is forgotten
	}
}

// What Window refuses leaves the window and the mark.
func TestP2001WindowRefused(t *testing.T) {
	c := made(t, 3, 40, 3, 2, 0)
	for n := range 10 {
		windows(t, c, 65*(n%2), api.ErrArg, min(n+1, 3))
		given(t, c, n, 1)
		c.Out()
		acks(t, "an ack", c, n+1)
		is(t, "an ack", c, look{false, 0, 0, n + 1, 0, min(n+2, 3)})
	}
}

// It is the window: no more fly, and the room grows up to it.
func TestP2001WindowIsThePeers(t *testing.T) {
	for from := 1; from <= 64; from += 7 {
		for to := 1; to <= 64; to += 3 {
			c := roomy(t, from, from, 1000)
			windows(t, c, to, api.OK, min(from, to))
			given(t, c, 0, 40)
			outs(t, "behind Window", c, items(1000, seen(c).come, 0, min(from, to, 40))...)
			n := c.Flying()
			for k := range n {
				acks(t, "an ack", c, 1001+k)
			}
			is(t, "acks", c, look{false, 40 - n, 0, 1000 + n, 1001 - from, min(min(from, to)+n, to)})
		}
	}
}

// It is the mark, too: below it the room grows by one with each ack, where it grew by the count before.
func TestP2001WindowIsTheMark(t *testing.T) {
	for _, to := range []int{5, 8, 20, 64} {
		c := roomy(t, 8, 8, 0)
		given(t, c, 0, 40)
		c.Out()
		ticks(c, 2) // the mark is 4
		windows(t, c, to, api.OK, 1)
		for n := range 8 {
			acks(t, "an ack", c, n+1)
			if got := c.Room(); got != min(n+2, to) {
				t.Errorf("Window(%d): the room is %d behind %d acks", to, got, n+1)
			}
		}
	}
	c := roomy(t, 8, 8, 0)
	given(t, c, 0, 40)
	c.Out()
	ticks(c, 2)
	for _, room := range []int{2, 3, 4, 4, 4, 4, 5, 5} { // as it is without Window
		acks(t, "an ack", c, c.first()+1)
		if got := c.Room(); got != room {
			t.Errorf("the room is %d, not %d", got, room)
		}
	}
}

// More fly than the new window says: they do, but none beside them.
func TestP2001WindowBelowWhatFlies(t *testing.T) {
	c := roomy(t, 6, 6, 65533)
	given(t, c, 0, 12)
	outs(t, "six", c, items(65533, 65528, 0, 6)...)
	windows(t, c, 2, api.OK, 2)
	outs(t, "Window", c)
	for n := range 4 {
		acks(t, "an ack", c, wrap(65534+n))
		outs(t, "an ack", c)
		is(t, "an ack", c, look{false, 6, 5 - n, 3, 65528, 2})
	}
	acks(t, "the fifth", c, 2)
	outs(t, "the fifth", c, it(3, 65528, "m6"))
	is(t, "the fifth", c, look{false, 5, 2, 4, 65528, 2})
}
