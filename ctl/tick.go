package ctl

const mostDoubled = 3 // so often the wait for an ack is twice the last

// Tick lets a tick go by.
func (c *Ctl) Tick() {
	if c.Dead() || len(c.flying) == 0 {
		return
	}
	c.ticks++
	if c.ticks < c.wait<<min(c.tries, mostDoubled) {
		return
	}
	if c.tries == c.retry {
		c.dead = true
		return
	}
	c.tries++
	c.ticks = 0
	c.again = true
	c.pace.fall()
}
