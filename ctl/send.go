package ctl

import (
	"slices"

	"tollgate/api"
)

// Send lets a message wait to be sent.
func (c *Ctl) Send(body string) api.Errno {
	switch {
	case c.Dead():
		return api.ErrState
	case body == "" || len(body) > api.MaxData:
		return api.ErrArg
	case len(c.waiting) >= c.queue:
		return api.ErrFull
	}
	c.waiting = append(c.waiting, body)
	return api.OK
}

// Out tells what is to be sent now.
func (c *Ctl) Out() []Item {
	if c.Dead() {
		return nil
	}
	var out []Item
	if c.again {
		out = append(out, c.item(c.first(), c.flying[0]))
	}
	for len(c.waiting) > 0 && len(c.flying) < c.pace.room {
		out = append(out, c.launch())
	}
	if len(out) == 0 && c.owed {
		out = append(out, c.item(c.next, ""))
	}
	c.again, c.owed = false, false
	return out
}

// item tells what goes over the way; whatever it is, it acks what came.
func (c *Ctl) item(ns int, body string) Item { return Item{Ns: ns, Nr: c.come, Body: body} }

// first tells the number of the first one that flies.
func (c *Ctl) first() int { return wrap(c.next - len(c.flying)) }

// launch lets the first one that waits fly.
func (c *Ctl) launch() Item {
	i := c.item(c.next, c.waiting[0])
	c.waiting = slices.Delete(c.waiting, 0, 1)
	c.flying = append(c.flying, i.Body)
	c.next = wrap(c.next + 1)
	c.ticks = 0
	return i
}
