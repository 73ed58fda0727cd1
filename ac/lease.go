package ac

import (
	"math/bits"

	"tollgate/api"
)

const (
	numbers  = 65535 // a session's number is one of 1 to this
	mostEach = 2     // sessions of one card
)

// lease is what is kept of a session beside its id.
type lease struct {
	uniq string
	used bool
}

// begin gives out a new session; its number.
func (c *Conc) begin(m api.Mac, uniq string) int {
	c.last = c.next()
	c.sessions[Id{Mac: m, Session: c.last}] = lease{uniq: uniq}
	return c.last
}

// use marks a session as used; false, if id is none.
func (c *Conc) use(id Id) bool {
	s, ok := c.sessions[id]
	if ok {
		s.used = true
		c.sessions[id] = s
	}
	return ok
}

// end ends a session, if id is one.
func (c *Conc) end(id Id) {
	if _, ok := c.sessions[id]; ok {
		delete(c.sessions, id)
		c.gone = append(c.gone, id)
	}
}

// unused tells the number of the session that a card has for a uniq and did not use yet, 0 without one. There is at most one: while there is, no other is begun.
func (c *Conc) unused(m api.Mac, uniq string) int {
	for id, s := range c.sessions {
		if id.Mac == m && s.uniq == uniq && !s.used {
			return id.Session
		}
	}
	return 0
}

// hasRoom tells whether a card may have one more session.
func (c *Conc) hasRoom(m api.Mac) bool {
	each := 0
	for id := range c.sessions {
		if id.Mac == m {
			each++
		}
	}
	return len(c.sessions) < c.most && each < mostEach
}

// next tells the first number behind the last one that no session has. Bit n stands for the number that n others part from the last; sessions are fewer than bits, so that one of these is free.
func (c *Conc) next() int {
	var taken uint64
	for id := range c.sessions {
		if n := (id.Session - 1 - c.last + numbers) % numbers; n < 64 {
			taken |= 1 << n
		}
	}
	return (c.last+bits.TrailingZeros64(^taken))%numbers + 1
}
