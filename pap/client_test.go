package pap

import (
	"fmt"
	"strings"
	"testing"

	"tollgate/api"
)

// P1302 and P1304.

// made makes a client of the name u, the secret p.
func made(t *testing.T, retry, wait int) *Client {
	t.Helper()
	c, err := New("u", "p", retry, wait)
	if c == nil || err != api.OK {
		t.Fatalf("New with %d, %d = %v, %d", retry, wait, c, err)
	}
	return c
}

// started makes one that asks; its request has the Id 1.
func started(t *testing.T, retry, wait int) *Client {
	t.Helper()
	c := made(t, retry, wait)
	says(t, "Start", c.Start(), ask(1))
	return c
}

func ask(id int) api.Packet { return req(id, "u", "p") }

func bare(code, id int) api.Packet { return api.Packet{Code: code, Id: id} }

// is holds whether a client is done, and good, against what it should be.
func is(t *testing.T, what string, c *Client, done, good bool) {
	t.Helper()
	if d, g := c.Done(); d != done || g != good {
		t.Fatalf("%s: Done() = %v, %v, not %v, %v", what, d, g, done, good)
	}
}

// quiet holds that nothing is sent for some ticks.
func quiet(t *testing.T, what string, c *Client, n int) {
	t.Helper()
	for range n {
		says(t, what+": a tick", c.Tick())
	}
}

func TestP1302New(t *testing.T) {
	retries := append(ends(), -2, -1, 0, 1, 5, 9, 10, 11, 12)
	waits := append(ends(), -2, -1, 0, 1, 2, 50, 99, 100, 101, 102)
	for _, retry := range retries {
		for _, wait := range waits {
			c, err := New("u", "p", retry, wait)
			if retry < 0 || retry > 10 || wait < 1 || wait > 100 {
				if c != nil || err != api.ErrArg {
					t.Errorf("New with %d, %d = %v, %d", retry, wait, c, err)
				}
				continue
			}
			if c == nil || err != api.OK {
				t.Errorf("New with %d, %d = %v, %d", retry, wait, c, err)
			}
		}
	}
}

// Too long is told ahead of all else.
func TestP1302NewLong(t *testing.T) {
	for _, long := range longs() {
		for _, text := range append(texts(), longs()...) {
			for _, retry := range []int{-1, 0, 10, 11} {
				for _, wait := range []int{0, 1, 100, 101} {
					if c, err := New(long, text, retry, wait); c != nil || err != api.ErrLong {
						t.Errorf("New with a name of %d bytes = %v, %d", len(long), c, err)
					}
					if c, err := New(text, long, retry, wait); c != nil || err != api.ErrLong {
						t.Errorf("New with a secret of %d bytes = %v, %d", len(long), c, err)
					}
				}
			}
		}
	}
}

func TestP1302NameAndSecret(t *testing.T) {
	for _, name := range texts() {
		for _, secret := range texts() {
			c, err := New(name, secret, 1, 1)
			if err != api.OK {
				t.Fatalf("New(%q, %q) = %d", name, secret, err)
			}
			says(t, "Start", c.Start(), req(1, name, secret))
			says(t, "Tick", c.Tick(), req(2, name, secret))
			says(t, "Tick", c.Tick())
			is(t, "no answer", c, true, false)
		}
	}
}

// It does nothing until it starts, and no tick counts till then.
func TestP1302BeforeStart(t *testing.T) {
	c := made(t, 1, 3)
	for range 10 {
		quiet(t, "New", c, 4)
		for code := range 5 {
			for id := range 3 {
				c.Take(bare(code, id))
			}
		}
		is(t, "New", c, false, false)
	}
	says(t, "Start", c.Start(), ask(1))
	quiet(t, "asking", c, 2)
	says(t, "the third tick", c.Tick(), ask(2))
}

// Each Start has the next Id, 255 being followed by 0.
func TestP1302StartAgain(t *testing.T) {
	c := made(t, 10, 100)
	for n := 1; n < 1100; n++ {
		says(t, "Start", c.Start(), ask(n%256))
		is(t, "Start", c, false, false)
	}
}

// Ids go on the same way where they are a tick's, and an answer to each one is taken.
func TestP1302IdsOfTicks(t *testing.T) {
	for _, code := range []int{2, 3} {
		c := made(t, 10, 1)
		id := 0
		for range 120 {
			id = (id + 1) % 256
			says(t, "Start", c.Start(), ask(id))
			for range 10 {
				id = (id + 1) % 256
				says(t, "Tick", c.Tick(), ask(id))
				for _, other := range []int{id - 256, id + 256, (id + 255) % 256, (id + 1) % 256, id + 1<<32} {
					c.Take(bare(code, other))
				}
				is(t, "other Ids", c, false, false)
			}
			c.Take(bare(code, id))
			is(t, fmt.Sprint("the Id ", id), c, true, code == 2)
		}
	}
}

// Behind each wait the request goes anew, retry times; then it is done.
func TestP1302Ticks(t *testing.T) {
	for retry := range 11 {
		for _, wait := range []int{1, 2, 3, 50, 99, 100} {
			c := started(t, retry, wait)
			for n := range retry {
				quiet(t, "waiting", c, wait-1)
				is(t, "waiting", c, false, false)
				says(t, "behind wait", c.Tick(), ask(n+2))
				is(t, "sent anew", c, false, false)
			}
			quiet(t, "the last wait", c, wait-1)
			is(t, "the last wait", c, false, false)
			says(t, "one more", c.Tick())
			is(t, "no answer", c, true, false)
			quiet(t, "done", c, 3*wait)
			is(t, "done", c, true, false)
			c.Take(bare(2, retry+1))
			is(t, "an answer too late", c, true, false)
		}
	}
}

// A Start counts the ticks anew, and how often it was sent, while it asks and when it is done.
func TestP1302StartCountsAnew(t *testing.T) {
	for ticks := range 13 {
		c := started(t, 2, 3)
		id := 1
		for range ticks {
			id += len(c.Tick())
		}
		is(t, "ticks", c, ticks >= 9, false)
		says(t, "Start", c.Start(), ask(id+1))
		is(t, "Start", c, false, false)
		quiet(t, "waiting", c, 2)
		says(t, "the third tick", c.Tick(), ask(id+2))
		quiet(t, "waiting", c, 2)
		says(t, "the sixth tick", c.Tick(), ask(id+3))
		quiet(t, "waiting", c, 2)
		is(t, "waiting", c, false, false)
		quiet(t, "the ninth tick", c, 1)
		is(t, "the ninth tick", c, true, false)
	}
}

// answers are those that say nothing to a client whose last Id is 3: other codes, other Ids.
func answers() []api.Packet {
	var l []api.Packet
	for code := -3; code < 300; code++ {
		if code != 2 && code != 3 {
			l = append(l, bare(code, 3))
		}
	}
	for _, code := range ends() {
		l = append(l, bare(code, 3))
	}
	for _, code := range []int{1<<8 + 2, 1<<8 + 3, -254, -253} {
		l = append(l, bare(code, 3))
	}
	for _, code := range []int{2, 3} {
		for id := -300; id < 600; id++ {
			if id != 3 {
				l = append(l, bare(code, id))
			}
		}
		for _, id := range ends() {
			l = append(l, bare(code, id))
		}
	}
	return l
}

// third makes a client whose last Id is 3, by ticks or by Starts.
func third(t *testing.T, byTicks bool) *Client {
	t.Helper()
	c := started(t, 5, 2)
	for id := 2; id < 4; id++ {
		if byTicks {
			quiet(t, "waiting", c, 1)
			says(t, "Tick", c.Tick(), ask(id))
		} else {
			says(t, "Start", c.Start(), ask(id))
		}
	}
	return c
}

func TestP1302TakeNothing(t *testing.T) {
	for _, byTicks := range []bool{true, false} {
		c := third(t, byTicks)
		for _, p := range answers() {
			for _, data := range []string{"", "\x02ok", "x"} {
				p.Data = data
				c.Take(p)
				is(t, fmt.Sprintf("%#v", p), c, false, false)
			}
		}
		// It asks as if nothing had come: the tick that was next is.
		quiet(t, "waiting", c, 1)
		says(t, "Tick", c.Tick(), ask(4))
	}
}

// Whatever stands in an answer: its Code and its Id say all.
func TestP1302Take(t *testing.T) {
	for code, good := range map[int]bool{2: true, 3: false} {
		for _, byTicks := range []bool{true, false} {
			for _, data := range []string{"", "\x00", "\x02ok", "\x02no", "\x03ok", "x", "\x3d", run(1500, 1)} {
				for _, l := range [][]api.Option{nil, {{Type: 1, Value: "v"}}, make([]api.Option, 40)} {
					c := third(t, byTicks)
					c.Take(api.Packet{Code: code, Id: 3, Data: data, Options: l})
					is(t, "an answer", c, true, good)
				}
			}
		}
	}
}

// When it is done nothing counts any more, until it starts again.
func TestP1302TakeWhenDone(t *testing.T) {
	for code, good := range map[int]bool{2: true, 3: false} {
		c := third(t, true)
		c.Take(bare(code, 3))
		for _, p := range append(answers(), bare(2, 3), bare(3, 3), bare(2, 3)) {
			c.Take(p)
			is(t, "done", c, true, good)
		}
		quiet(t, "done", c, 50)
		is(t, "done", c, true, good)
		says(t, "Start", c.Start(), ask(4))
		is(t, "Start", c, false, false)
		c.Take(bare(2, 3))
		c.Take(bare(3, 3))
		is(t, "what answers the last request but one", c, false, false)
		c.Take(bare(5-code, 4))
		is(t, "the other answer", c, true, !good)
	}
}

// At the very tick behind which it is done, and at the one ahead of it.
func TestP1302TakeAtTheEnd(t *testing.T) {
	for code, good := range map[int]bool{2: true, 3: false} {
		c := started(t, 0, 3)
		quiet(t, "waiting", c, 2)
		c.Take(bare(code, 1))
		is(t, "in time", c, true, good)
		c = started(t, 0, 3)
		quiet(t, "waiting", c, 3)
		c.Take(bare(code, 1))
		is(t, "too late", c, true, false)
	}
}

// Asking whether it is done changes nothing.
func TestP1302DoneIsQuiet(t *testing.T) {
	c := started(t, 1, 2)
	for range 3 {
		is(t, "asking", c, false, false)
	}
	quiet(t, "waiting", c, 1)
	is(t, "asking", c, false, false)
	says(t, "Tick", c.Tick(), ask(2))
	c.Take(bare(2, 2))
	for range 3 {
		is(t, "good", c, true, true)
	}
}

// What was told is not changed later, and what is changed in it changes nothing.
func TestP1302NothingIsShared(t *testing.T) {
	c := made(t, 2, 1)
	first := c.Start()
	second := c.Tick()
	third := c.Start()
	says(t, "Start", first, ask(1))
	says(t, "Tick", second, ask(2))
	says(t, "Start", third, ask(3))
	for _, l := range [][]api.Packet{first, second, third} {
		spoil(l)
	}
	for id := 4; id < 6; id++ {
		l := c.Tick()
		says(t, "Tick", l, ask(id))
		spoil(l)
	}
	c.Take(bare(2, 5))
	is(t, "an answer", c, true, true)
	spoil(c.Start())
	says(t, "Tick", c.Tick(), ask(7))
}

// Two clients know nothing of each other, a copy neither.
func TestP1302EachItsOwn(t *testing.T) {
	a, b := started(t, 1, 2), made(t, 1, 2)
	quiet(t, "the other", b, 5)
	copied := *a
	a.Take(bare(2, 1))
	is(t, "the one", a, true, true)
	is(t, "the other", b, false, false)
	is(t, "the copy", &copied, false, false)
	says(t, "the other", b.Start(), ask(1))
	b.Take(bare(3, 1))
	is(t, "the other", b, true, false)
	is(t, "the one", a, true, true)
	quiet(t, "the copy", &copied, 1)
	says(t, "the copy", copied.Tick(), ask(2))
}

// The texts that New was given may be pieces of others.
func TestP1302PiecesOfTexts(t *testing.T) {
	full := strings.Repeat("u", 70) + strings.Repeat("p", 70)
	c, err := New(full[69:70], full[70:71], 0, 1)
	if err != api.OK {
		t.Fatal(err)
	}
	says(t, "Start", c.Start(), ask(1))
}

func TestP1304NilAndZero(t *testing.T) {
	for what, c := range map[string]*Client{"nil": nil, "zero": {}} {
		for range 300 {
			says(t, what, c.Start())
			is(t, what, c, false, false)
			quiet(t, what, c, 2)
			for code := -1; code < 5; code++ {
				for id := -1; id < 3; id++ {
					c.Take(api.Packet{Code: code, Id: id, Data: "\x02ok"})
				}
			}
			c.Take(api.Packet{})
			is(t, what, c, false, false)
		}
	}
}
