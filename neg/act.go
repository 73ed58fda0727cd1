package neg

import (
	"slices"

	"tollgate/api"
	"tollgate/opts"
)

const mostReject = api.MaxData - 12 // so that what is rejected has room behind a head of its own

// cause is the packet by which something happens; if it is a request, also the answer to it, and the rules that it was judged by.
type cause struct {
	came, answer api.Packet
	rules        book
}

// unasked is the cause where no packet came: what would be answered has this end's Id then.
func (n *Neg) unasked() cause { return cause{came: api.Packet{Id: n.id}} }

// happen lets an event happen; what is sent.
func (n *Neg) happen(event int, c cause) []api.Packet { return n.act(n.machine.Do(event), c) }

// act does what the automaton asks for; what is sent.
func (n *Neg) act(does []int, c cause) []api.Packet {
	var out []api.Packet
	for _, action := range does {
		n.count(action)
		switch action {
		case api.Scr:
			out = append(out, n.ask())
		case api.Sca:
			out = append(out, n.agree(c.answer))
		case api.Scn:
			out = append(out, n.refuse(c))
		case api.Str:
			out = append(out, n.end())
		case api.Sta:
			out = append(out, api.Packet{Code: api.TermAck, Id: c.came.Id})
		case api.Scj:
			out = append(out, n.reject(c.came))
		}
	}
	return out
}

// count counts how often it comes up and down.
func (n *Neg) count(action int) {
	switch action {
	case api.Tlu:
		n.ups = min(n.ups+1, mostCounted)
	case api.Tld:
		n.downs = min(n.downs+1, mostCounted)
	}
}

// NextId takes the next Id, for a layer that says more than what is negotiated; the conversion lets it begin again behind 255.
func (n *Neg) NextId() int {
	if n.isNone() {
		return 0
	}
	n.id = int(byte(n.id + 1))
	return n.id
}

func (n *Neg) ask() api.Packet {
	n.ticks = 0
	n.last, n.begun = n.NextId(), true
	return api.Packet{Code: api.ConfReq, Id: n.last, Options: slices.Clone(n.request)}
}

func (n *Neg) agree(ack api.Packet) api.Packet {
	n.theirs = slices.Clone(ack.Options)
	return ack
}

// refuse tells the nak or the reject of a request. Who was told too often what would be better is told what is not wanted.
func (n *Neg) refuse(c cause) api.Packet {
	if c.answer.Code != api.ConfNak || n.fails == 0 {
		return c.answer
	}
	if n.naks < n.fails {
		n.naks++
		return c.answer
	}
	return api.Packet{Code: api.ConfRej, Id: c.came.Id, Options: c.rules.misfits(c.came.Options)}
}

func (n *Neg) end() api.Packet {
	n.ticks = 0
	return api.Packet{Code: api.TermReq, Id: n.NextId()}
}

// reject tells that a packet's code is not known; of a packet that no bytes can be it has none.
func (n *Neg) reject(came api.Packet) api.Packet {
	b, _ := opts.Put(came)
	return api.Packet{Code: api.CodeRej, Id: n.NextId(), Data: b[:min(len(b), mostReject)]}
}
