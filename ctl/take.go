package ctl

import "slices"

// Take takes what came; the messages that are told.
func (c *Ctl) Take(i Item) []string {
	if c.Dead() || !isNumber(i.Ns) || !isNumber(i.Nr) {
		return nil
	}
	c.land(c.acked(i.Nr))
	if i.Body == "" {
		return nil
	}
	c.owed = true // also where it came before: its ack may have been lost
	if i.Ns != c.come {
		return nil
	}
	c.come = wrap(c.come + 1)
	return []string{i.Body}
}

// acked tells how many of those that fly are acked by Nr.
func (c *Ctl) acked(nr int) int {
	if Before(c.next, nr) { // one of none that was sent
		return 0
	}
	n := 0
	for n < len(c.flying) && Before(c.first()+n, nr) { // of an old one none is Before it
		n++
	}
	return n
}

// land lets the first n of those that fly do so no more.
func (c *Ctl) land(n int) {
	if n == 0 {
		return
	}
	c.flying = slices.Delete(c.flying, 0, n)
	c.tries, c.ticks = 0, 0
	c.again = false // who is sent again is the first one
	for range n {
		c.pace.grow()
	}
}
