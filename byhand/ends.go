package byhand

import (
	"slices"

	"tollgate/api"
)

// End is one that negotiates with another.
type End interface {
	Do(event int) []api.Packet
	Take(p api.Packet) []api.Packet
	Tick() []api.Packet
	State() int
	Mine() []api.Option
	Theirs() []api.Option
}

// mostSettled is how many packets two ends may say to each other before it counts as for ever.
const mostSettled = 1000

// Pair is two ends, and what is on its way to each of them.
type Pair[E End] struct {
	Ends [2]E
	Ways [2][]api.Packet
}

// Send lays packets on the way from an end to the other one.
func (p *Pair[E]) Send(from int, l []api.Packet) { p.Ways[1-from] = append(p.Ways[1-from], l...) }

// Do lets an event happen to both.
func (p *Pair[E]) Do(event int) {
	for i, e := range p.Ends {
		p.Send(i, e.Do(event))
	}
}

// Tick lets a tick go by for both.
func (p *Pair[E]) Tick() {
	for i, e := range p.Ends {
		p.Send(i, e.Tick())
	}
}

// Lose takes the first packet off the way to an end.
func (p *Pair[E]) Lose(to int) {
	if len(p.Ways[to]) > 0 {
		p.Ways[to] = p.Ways[to][1:]
	}
}

// Deliver hands the first packet on the way to an end over to it; false, if there is none.
func (p *Pair[E]) Deliver(to int) bool {
	if len(p.Ways[to]) == 0 {
		return false
	}
	first := p.Ways[to][0]
	p.Lose(to)
	p.Send(to, p.Ends[to].Take(first))
	return true
}

// Settle delivers all that is on its way, and what that brings about; false, if there is no end of it.
func (p *Pair[E]) Settle() bool {
	for range mostSettled {
		if !p.Deliver(0) && !p.Deliver(1) {
			return true
		}
	}
	return false
}

// IsQuiet tells whether nothing is on its way.
func (p *Pair[E]) IsQuiet() bool { return len(p.Ways[0])+len(p.Ways[1]) == 0 }

// AreOpened tells whether both are Opened.
func (p *Pair[E]) AreOpened() bool {
	return p.Ends[0].State() == api.Opened && p.Ends[1].State() == api.Opened
}

// Agree tells whether what is mine at the one is theirs at the other, both ways.
func (p *Pair[E]) Agree() bool {
	one, other := p.Ends[0], p.Ends[1]
	return slices.Equal(one.Mine(), other.Theirs()) && slices.Equal(other.Mine(), one.Theirs())
}
