package ctl

import (
	"math/rand/v2"
	"slices"
	"testing"

	"tollgate/api"
)

// Any steps of an end beside a plain one that never wraps, and that keeps a diary of all that it was given.

// plain is an end whose messages are counted from 0 on.
type plain struct {
	window, queue, retry, wait, first int
	given                             []string
	sent, acked, heard                int // so many of given; so many Bodies came in their turn
	owes, repeats, dead               bool
	// Since the last New, Window or wait in vain: from which room on, up to which mark, how many acks came.
	from, mark, acks int
	plan             []int // how many ticks are left to each wait in vain, and to the end
}

func plainOf(window, queue, retry, wait, first int) *plain {
	return &plain{window: window, queue: queue, retry: retry, wait: wait, first: first, from: 1, mark: window}
}

// number tells the number of the message n.
func (p *plain) number(n int) int { return (p.first + n) % 65536 }

// room is reckoned from the diary, step by step.
func (p *plain) room() int {
	room, left := p.from, p.acks
	for room < p.mark && left > 0 {
		room++
		left--
	}
	for room < p.window && left >= room {
		left -= room
		room++
	}
	return room
}

func (p *plain) send(body string) api.Errno {
	if p.dead {
		return api.ErrState
	}
	if n := len(body); n == 0 || n > 1500 {
		return api.ErrArg
	}
	if len(p.given)-p.sent == p.queue {
		return api.ErrFull
	}
	p.given = append(p.given, body)
	return api.OK
}

func (p *plain) setWindow(n int) api.Errno {
	if n < 1 || n > 64 {
		return api.ErrArg
	}
	p.from, p.acks = min(p.room(), n), 0
	p.window, p.mark = n, n
	return api.OK
}

func (p *plain) take(i Item) []string {
	if p.dead || i.Ns>>16 != 0 || i.Nr>>16 != 0 {
		return nil
	}
	for n := p.acked + 1; n <= p.sent; n++ {
		if p.number(n) == i.Nr {
			p.acks += n - p.acked
			p.acked = n
			p.repeats = false
			p.begin()
			break
		}
	}
	p.owes = p.owes || i.Body != ""
	if i.Body == "" || p.number(p.heard) != i.Ns {
		return nil
	}
	p.heard++
	return []string{i.Body}
}

// begin plans the waits for an ack of what flies.
func (p *plain) begin() {
	p.plan = nil
	left := p.wait
	for try := range p.retry + 1 {
		p.plan = append(p.plan, left)
		if try < 3 {
			left *= 2
		}
	}
}

func (p *plain) tick() {
	if p.dead || p.acked == p.sent {
		return
	}
	p.plan[0]--
	if p.plan[0] > 0 {
		return
	}
	p.plan = p.plan[1:]
	if len(p.plan) == 0 {
		p.dead = true
		return
	}
	p.mark, p.from, p.acks = max(p.room()/2, 1), 1, 0
	p.repeats = true
}

func (p *plain) out() []Item {
	if p.dead {
		return nil
	}
	var l []Item
	say := func(n int, body string) { l = append(l, Item{p.number(n), p.number(p.heard), body}) }
	if p.repeats {
		say(p.acked, p.given[p.acked])
	}
	was := p.sent
	for p.sent < len(p.given) && p.sent-p.acked < p.room() {
		say(p.sent, p.given[p.sent])
		p.sent++
	}
	if p.sent > was { // the first wait of a plan: what was tried in vain lets none more fly
		p.begin()
	}
	if len(l) == 0 && p.owes {
		say(p.sent, "")
	}
	p.owes, p.repeats = false, false
	return l
}

func (p *plain) look() look {
	return look{p.dead, len(p.given) - p.sent, p.sent - p.acked, p.number(p.sent), p.number(p.heard), p.room()}
}

// near tells a number that is often one of those which matter.
func near(r *rand.Rand, p *plain) (int, int) {
	ns, nr := p.number(p.heard), p.number(p.acked+r.IntN(p.sent-p.acked+1))
	switch r.IntN(8) {
	case 0:
		ns = p.number(p.heard + 65536 + r.IntN(9) - 4)
	case 1:
		ns = r.IntN(65540) - 2
	}
	switch r.IntN(8) {
	case 0:
		nr = p.number(p.sent + 65536 + r.IntN(9) - 4)
	case 1:
		nr = r.IntN(65540) - 2
	case 2:
		nr = p.number(p.sent + 32768 + r.IntN(140) - 70)
	}
	return ns, nr
}

// random does some step to both, and holds what they answer against each other; it tells which step.
func random(t *testing.T, r *rand.Rand, c *Ctl, p *plain, calm int) int {
	t.Helper()
	step := r.IntN(20)
	switch {
	case step < 5:
		b := body(len(p.given))
		if r.IntN(20) == 0 {
			b = long([]int{0, 1500, 1501}[r.IntN(3)])
		}
		if got, want := c.Send(b), p.send(b); got != want {
			t.Fatalf("Send = %d, not %d", got, want)
		}
	case step < 9:
		i := Item{Body: []string{"", "x", "y"}[r.IntN(3)]}
		i.Ns, i.Nr = near(r, p)
		if got, want := c.Take(i), p.take(i); !slices.Equal(got, want) {
			t.Fatalf("Take(%v) = %q, not %q", i, got, want)
		}
	case step < 15:
		if got, want := c.Out(), p.out(); !slices.Equal(got, want) {
			t.Fatalf("Out() = %v, not %v", got, want)
		}
	case step < 19:
		if r.IntN(calm) == 0 {
			c.Tick()
			p.tick()
		}
	case r.IntN(calm) == 0:
		n := r.IntN(67) - 1
		if got, want := c.Window(n), p.setWindow(n); got != want {
			t.Fatalf("Window(%d) = %d, not %d", n, got, want)
		}
	}
	return step
}

func TestAnySteps(t *testing.T) {
	r := rand.New(rand.NewPCG(20, 5))
	deaths, waits, wide := 0, 0, 0
	for range 1500 {
		window, queue, retry, wait := 1+r.IntN(64), 1+r.IntN(40), r.IntN(11), 1+r.IntN(5)
		first := []int{0, 32768, 65535, r.IntN(65536), 65536 - 1 - r.IntN(200)}[r.IntN(5)]
		calm := 1 + r.IntN(12)
		c, p := made(t, window, queue, retry, wait, first), plainOf(window, queue, retry, wait, first)
		for n := range 500 {
			was := p.mark
			step := random(t, r, c, p, calm)
			if got, want := seen(c), p.look(); got != want {
				t.Fatalf("New(%d, %d, %d, %d, %d), behind %d steps, the last of kind %d: %+v, not %+v", window, queue, retry, wait, first, n+1, step, got, want)
			}
			if p.mark < was && p.mark < p.window {
				waits++
			}
			wide = max(wide, p.sent-p.acked)
		}
		if p.dead {
			deaths++
		}
	}
	if deaths < 50 || waits < 1000 || wide < 20 {
		t.Errorf("%d died, %d times it waited in vain, %d flew at most", deaths, waits, wide)
	}
}

// Whatever comes, no more is kept than there is room for, and it ends.
func TestAnyItems(t *testing.T) {
	r := rand.New(rand.NewPCG(20, 6))
	for range 200 {
		c := made(t, 1+r.IntN(64), 1+r.IntN(40), r.IntN(11), 1, r.IntN(65536))
		for range 2000 {
			c.Send("x")
			c.Take(it(r.IntN(65600)-30, r.IntN(65600)-30, "y"[:r.IntN(2)]))
			c.Out()
			c.Window(r.IntN(66))
			if r.IntN(10) == 0 {
				c.Tick()
			}
			got := seen(c)
			if got.waiting > 40 || got.flying > 64 || got.room < 1 || got.room > 64 || got.next>>16 != 0 || got.come>>16 != 0 {
				t.Fatalf("%+v", got)
			}
		}
	}
}
